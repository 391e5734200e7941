/-
  The walk of blocks.
  A level that is being parsed: five lists under construction, apart from each other.
  The walks of items.
  The walk of one item of a level.
  The walk of the parsing of tokens, whose failure is recovered.
-/
import Derived.Test.YtilfpnkcgjonhaaGreatDoorZPlA
import Derived.Defers
import Derived.Recover
import Derived.Test.YtilfpnkcgjonhaaGreatDoorZWalkLex
namespace Go.Proofs.YtilfpnkcgjonhaaGreatDoor.Pl
open Go.RowKit Go.Sort Go.Shelf Foyer.Plan Foyer.Round
theorem blockC_ent (args : Array Value) (w : World) : (callFunc 165 args).run Tryz.prog w = .ok (.enter 165 args) w := enters_of Tryz.func165 (by kernel_rfl) rfl args w
theorem blockC_info : (Tryz.prog.info? 40).map (fun i => (i.zero, i.size, i.bytes)) = some (some (.agg #[.string ⟨#[]⟩, .int .i64 0, .int .i64 0, .int .i64 0, .int .i64 0, .int .i64 0, .slice none 0 0, .int .i64 0]), rowK.size, 88) := by kernel_rfl
set_option linter.unusedSimpArgs false in
set_option maxRecDepth 100000 in
set_option maxHeartbeats 2000000 in
theorem blockC_any (bp L vb pb base : Nat) (ts : List TokP) (nm at_ v : Value) (ms : List RowP) (w : World) (hA : At w bp L ts) (hV : Blk w vb 44 [nm, v, at_]) (hP : Blk w pb 123 [.pointer (some ⟨bp, 0, none⟩)])
  (hB : Building rowK w (fun k => base ≤ k ∧ v.ownBlock ≠ some k) base 40 v ms) (hbw : base ≤ w.heap.size) (hvb : vb < base) (hpb : pb < base) (hbp : bp < base) (hbv : bp < vb) (hbpb : bp ≠ pb) (hlen : ms.length + 1 ≤ 1000000) (hts : ts.length ≤ 5000) :
  Calls Tryz.prog 165 #[.pointer (some ⟨vb, 0, none⟩), .pointer (some ⟨pb, 0, none⟩)] w fun e w' =>
   (∃ m r, rowP ts = .ok m r ∧ e = .returned (.tuple #[]) ∧ (∃ v', Blk w' vb 44 [nm, v', at_] ∧ Building rowK w' (fun k => base ≤ k ∧ v'.ownBlock ≠ some k) base 40 v' (ms ++ [m])) ∧ At w' bp L r ∧ Kp (fun k => k = bp ∨ k = vb ∨ base ≤ k) w w') ∨ ∃ r, rowP ts = .bad r ∧ e = failP r L ∧ Kp (fun k => k = bp ∨ k = vb ∨ base ≤ k) w w' := by
 have HA := hid hA; have HB := hid hB; have HV := hid hV; have HP := hid hP
 clear hA hB hV hP
 go_enter Tryz.func165, Tryz.ntmps165
 refine wp_region_any (by kernel_rfl) ?_
 have hS0 : Blk w.drew vb 44 [nm, v, at_] ∧ Blk w.drew pb 123 [.pointer (some ⟨bp, 0, none⟩)] := ⟨HV.out, HP.out⟩
 have hA0 : At w.drew bp L ts := HA.out.kept (E := fun _ => False) (Kp.refl _ _).drew (fun _ h => h.elim)
 have hK0 : Kp (fun k => k = bp ∨ k = vb ∨ base ≤ k) w w.drew := (Kp.refl _ _).drew
 have hB0 : Building rowK w.drew (fun k => base ≤ k ∧ v.ownBlock ≠ some k) base 40 v ms := HB.out.kept (fun _ _ => rfl) (fun _ _ _ => rfl) (fun _ h _ => h)
 have hz0 : base ≤ w.drew.heap.size := hbw
 refine any_of_held (S := fun W => Blk W vb 44 [nm, v, at_] ∧ Blk W pb 123 [.pointer (some ⟨bp, 0, none⟩)]) (N := [5, 6, 7]) _ _ _ _ ?_
 change held _ _ _ _ _ _ _ _ _ w.drew
 obtain ⟨wa, hwa⟩ : ∃ wa, w.drew = wa := ⟨_, rfl⟩
 rw [hwa] at hS0 hA0 hK0 hB0 hz0 ⊢
 have HK0 := hid hK0; have HA0 := hid hA0; have HB0 := hid hB0
 clear hK0 hA0 hB0 hwa HA HB HV HP
 refine held_take [1, 5, 6, 7] (i := 0) (v := .pointer (some ⟨vb, 1, none⟩)) rfl (by kernel_rfl) (fun _ _ _ h => h) (Or.inl ⟨by rfl, fun w' hS => by go_simp⟩) hS0 ?_
 try simp only [Act.put, aA, aB, aC]
 refine held_take [5, 6, 7] (i := 1) (v := v) rfl (by kernel_rfl) (fun _ _ _ h => h) (Or.inl ⟨by rfl, fun w' hS => by have hc := hS.1.cell (i := 1) rfl; go_simp⟩) hS0 ?_
 try simp only [Act.put, aA, aB, aC]
 refine held_take [3, 4, 5, 6, 7] (i := 2) (v := .pointer (some ⟨bp, 0, none⟩)) rfl (by kernel_rfl) (fun _ _ _ h => h) (Or.inl ⟨by rfl, fun w' hS => by have hc := hS.2.cell (i := 0) rfl; go_simp⟩) hS0 ?_
 try simp only [Act.put, aA, aB, aC]
 refine held_one (i := 3) rfl (by kernel_rfl) (fun K hK => ?_)
 go_simp
 refine (row_any bp L ts wa hts HA0.out).mono ?_
 rintro e W1 (⟨m, r, h1, ⟨c, rfl, hc⟩, a1, k1⟩ | ⟨r, h1, rfl, k1⟩)
 rotate_left
 ·unfold failP
  exact ⟨rfl, Or.inr ⟨r, h1, rfl, HK0.out.call k1 (fun k hk => Or.inl (Or.inl hk))⟩⟩
 have hS1 : Blk W1 vb 44 [nm, v, at_] ∧ Blk W1 pb 123 [.pointer (some ⟨bp, 0, none⟩)] := ⟨hS0.1.kept k1 (fun h => by have : vb = bp := h; omega), hS0.2.kept k1 (fun h => hbpb h.symm)⟩
 have hz1' : base ≤ W1.heap.size := Nat.le_trans hz0 k1.size
 have hb1 : Building rowK W1 (fun k => base ≤ k ∧ v.ownBlock ≠ some k) base 40 v ms := HB0.out.kept (fun k hk => k1.block k (HB0.out.lt hk).2 (fun h => by have h2 := (HB0.out.lt hk).1; have : k = bp := h; omega)) (fun k hk hlt => k1.block k hlt (fun h => by have h2 := hk.1; have : k = bp := h; omega)) (fun _ h _ => h)
 have hsz1 := k1.size
 have hown : ∀ k, v.ownBlock = some k → k < wa.heap.size := fun k hk => (HB0.out.lt hk).2
 have K1 := hid (HK0.out.call k1 (fun k hk => Or.inl (Or.inl hk))); have A1 := hid a1; have H1 := hid h1; have HB1 := hid hb1; have HOW := hid hown
 clear a1 k1 h1 hb1 hown HB0 HK0 HA0
 obtain ⟨v0, rfl, hl0⟩ := hc
 obtain ⟨sa, sn, sc, rfl⟩ := hl0.slice
 unfold rowC
 have hc : rowK.is W1 (fun k => wa.heap.size ≤ k) (rowC m (.slice sa sn sc)) m := ⟨_, rfl, hl0⟩
 clear hl0
 refine hK.out _ _ (fun _ => hS1) ?_
 clear hK K
 try simp only [Act.put, aA, aB, aC]
 refine held_one (i := 4) rfl (by kernel_rfl) (fun K hK => ?_)
 go_simp
 refine hK.out _ _ (fun _ => ⟨hS1.1.alloc _, hS1.2.alloc _⟩) ?_
 clear hK K
 try simp only [Act.put, aA, aB, aC]
 refine held_one (i := 5) rfl (by kernel_rfl) (fun K hK => ?_)
 rw [if_pos (by kernel_rfl)]
 obtain ⟨i0, hi, hz0', hz1, hz2⟩ := info_parts blockC_info
 obtain ⟨css, hcon, hall⟩ := HB1.out
 refine con_append (t := 42) (T := 40) (m := rowK.size) (B := base) Tryz.underlying42 hi hz0' hz1 hz2 rfl (by decide) (by decide) (.tmp 3) (.tmp 6) rfl v css (rowC m (.slice sa sn sc)) rfl (hcon.of_block (fun k hk => Below.heap_alloc _ _ _ (by have := HOW.out k hk; omega))) W1.heap.size rfl (Blk.new W1 40 (rowC m (.slice sa sn sc))) (rowK.len hc) (rowK.one hc) (by rw [All2.length hall]; exact hlen) (by rw [World.size_alloc]; omega) ?_
 intro v' W2 hcon' hg hat hone
 obtain ⟨g, cap, cur, rfl, hgb, hgl, _⟩ : ∃ g cap cur, v' = .slice (some ⟨g, 0, none⟩) (css ++ [(rowC m (.slice sa sn sc))]).length cap ∧ base ≤ g ∧ g < W2.heap.size ∧ W2.heap[g]? = some (.cells cur 40 (0, 0)) := by
  rcases hcon'.form with ⟨_, h⟩ | ⟨g, cap, cur, h1, h2, h3, h4, _⟩
  ·simp at h
  ·exact ⟨g, cap, cur, h1, h2, h3, h4⟩
 have hgr : ∀ k, k < W1.heap.size → v.ownBlock ≠ some k → W2.heap[k]? = W1.heap[k]? := fun k hk hn => (hg.block k (by rw [World.size_alloc]; omega) (fun h => hn h.symm)).trans (Below.heap_alloc _ _ _ hk)
 have hnv : v.ownBlock ≠ some vb := fun h => by have := (own_lt hcon.own h).1; omega
 have hnp : v.ownBlock ≠ some pb := fun h => by have := (own_lt hcon.own h).1; omega
 have hnb : v.ownBlock ≠ some bp := fun h => by have := (own_lt hcon.own h).1; omega
 have hS2 : Blk W2 vb 44 [nm, v, at_] := (hgr vb (by omega) hnv).trans hS1.1
 have K2 : Kp (fun k => k = bp ∨ k = vb ∨ base ≤ k) w W2 := (K1.out.alloc (.cells ((rowC m (.slice sa sn sc))).toArray 40)).grown hg (fun k hk => Or.inl (Or.inr (Or.inr (own_lt hcon.own hk).1)))
 have A2 : At W2 bp L r := A1.out.kept (E := fun k => base ≤ k) (((Kp.refl _ W1).alloc (.cells ((rowC m (.slice sa sn sc))).toArray 40)).grown hg (fun k hk => Or.inl (own_lt hcon.own hk).1)) (fun k hk => by have : base ≤ k := hk; omega)
 have hg' : v.ownBlock = some g ∨ g = W1.heap.size + 1 := by
  rcases hat with h | h
  ·exact Or.inl h.symm
  ·exact Or.inr (by simpa [Value.ownBlock] using h)
 have hall2 : All2 (rowK.is W2 (fun k => base ≤ k ∧ (Value.slice (some ⟨g, 0, none⟩) (css ++ [(rowC m (.slice sa sn sc))]).length cap).ownBlock ≠ some k)) (css ++ [(rowC m (.slice sa sn sc))]) (ms ++ [m]) := by
  refine All2.snoc (All2.imp hall fun b x h => rowK.moved h (fun k hk hlt => hgr k hlt hk.2) (fun k hk hlt => ⟨hk.1, fun e => ?_⟩)) (rowK.moved hc (fun k hk hlt => hgr k hlt (fun e => by have := HOW.out k e; have : wa.heap.size ≤ k := hk; omega)) (fun k hk hlt => ⟨by have : wa.heap.size ≤ k := hk; omega, fun e => ?_⟩))
  ·have e' : g = k := by simpa [Value.ownBlock] using e
   subst e'
   rcases hg' with h | h
   ·have := HOW.out g h; have : wa.heap.size ≤ g := hk; omega
   ·omega
  ·have e' : g = k := by simpa [Value.ownBlock] using e
   subst e'
   rcases hg' with h | h
   ·exact hk.2 h
   ·omega
 have HS2 := hid hS2; have HK2 := hid K2; have HA2 := hid A2; have HC2 := hid hcon'; have HALL := hid hall2
 have hc2 := hS2.cell (i := 1) rfl
 have hf2 := hS2.free 1
 clear hS2 K2 A2 hcon' hall2 hgr hg hat hg' hcon hall hc hS0 hS1
 generalize (css ++ [(rowC m (.slice sa sn sc))]).length = n2 at *
 refine hK.out _ _ (fun h => absurd (by decide) h) ?_
 clear hK K
 try simp only [Act.put, aA, aB, aC]
 refine held_one (i := 6) rfl (by kernel_rfl) (fun K hK => ?_)
 go_simp
 refine hK.out _ _ (fun h => absurd (by decide) h) ?_
 clear hK K
 try simp only [Act.put, aA, aB, aC]
 refine held_one (i := 7) rfl (by kernel_rfl) (fun K hK => ?_)
 go_simp
 refine hK.out _ _ (fun h => absurd (by decide) h) ?_
 clear hK K
 try simp only [Act.put, aA, aB, aC]
 refine held_done (by kernel_rfl) ?_ _
 go_end0
 refine Or.inl ⟨m, r, H1.out, rfl, ⟨_, HS2.out.set 1 (.slice (some ⟨g, 0, none⟩) n2 cap), ?_⟩, ?_, HK2.out.setOld vb 1 (Or.inr (Or.inl rfl)) _⟩
 rotate_left
 ·exact HA2.out.kept (E := onlyB vb) ((Kp.refl (onlyB vb) W2).setOld vb 1 rfl _) (fun k hk => by have : k = vb := hk; omega)
 have hne : ∀ k, base ≤ k → (W2.setCell ⟨vb, 1, none⟩ (.slice (some ⟨g, 0, none⟩) n2 cap)).heap[k]? = W2.heap[k]? := fun k hk => Below.heap_setCell _ _ _ _ (by show k ≠ vb; omega)
 have hbu : Building rowK W2 (fun k => base ≤ k ∧ (Value.slice (some ⟨g, 0, none⟩) n2 cap).ownBlock ≠ some k) base 40 (.slice (some ⟨g, 0, none⟩) n2 cap) (ms ++ [m]) := ⟨_, HC2.out, HALL.out⟩
 exact hbu.kept (fun k hk => hne k (own_lt HC2.out.own hk).1) (fun k hk _ => hne k hk.1) (fun _ h _ => h)
set_option maxRecDepth 100000 in
set_option maxHeartbeats 4000000 in
theorem block_any (bp L at_ : Nat) (ts : List TokP) (w : World) (hts : ts.length ≤ 5000) (h : At w bp L ts) : Calls Tryz.prog 140 #[.pointer (some ⟨bp, 0, none⟩), .int .i64 (at_ : Nat)] w (Gives bp L (onlyB bp) w (blockP at_ ts) (KindV blockK w.heap.size)) := by
 have hlt := h.lt
 have hmf := makes_func
 have P0 := (Blk.new w 123 [.pointer (some ⟨bp, 0, none⟩)]).alloc (.cells #[.string ⟨#[]⟩, .slice none 0 0, .int .i64 0] 44)
 have R0 := Blk.new (w.alloc (.cells #[.pointer (some ⟨bp, 0, none⟩)] 123)) 44 [.string ⟨#[]⟩, .slice none 0 0, .int .i64 0]
 rw [show (w.alloc (.cells #[.pointer (some ⟨bp, 0, none⟩)] 123)).heap.size = w.heap.size + 1 by simp] at R0
 have K0 : Kp (onlyB bp) w ((w.alloc (.cells #[.pointer (some ⟨bp, 0, none⟩)] 123)).alloc (.cells #[.string ⟨#[]⟩, .slice none 0 0, .int .i64 0] 44)) := ((Kp.refl _ _).alloc _).alloc _
 have A0 := h.kept (E := fun _ => False) (((Kp.refl _ w).alloc (.cells #[.pointer (some ⟨bp, 0, none⟩)] 123)).alloc (.cells #[.string ⟨#[]⟩, .slice none 0 0, .int .i64 0] 44)) (fun _ h => h.elim)
 have hs0 : w.heap.size + 2 ≤ ((w.alloc (.cells #[.pointer (some ⟨bp, 0, none⟩)] 123)).alloc (.cells #[.string ⟨#[]⟩, .slice none 0 0, .int .i64 0] 44)).heap.size := by simp
 clear h
 go_enter Tryz.func140, Tryz.ntmps140
 go_upto_region 1 with fail
 generalize (w.alloc (.cells #[.pointer (some ⟨bp, 0, none⟩)] 123)).alloc (.cells #[.string ⟨#[]⟩, .slice none 0 0, .int .i64 0] 44) = W0 at *
 have P0 := hid P0; have R0 := hid R0; have K0 := hid K0; have A0 := hid A0
 have cP0 := P0.out.cell (i := 0) rfl
 go_wp2_with fail
 refine (name_any bp L ts _ A0.out).mono ?_
 rintro e W1 (⟨nm, r1, h1, rfl, a1, k1⟩ | ⟨r1, h1, rfl, k1⟩)
 rotate_left
 ·have KK := hid (K0.out.trans k1); have HB := hid h1
  clear h1 k1
  unfold failP
  go_wp2
  refine ⟨rfl, gives_bad _ ?_ KK.out⟩
  show blockP at_ ts = _
  unfold blockP
  rw [then_bad HB.out]
 have P1 := hid (P0.out.kept k1 (fun h => by have : w.heap.size = bp := h; omega))
 have R1 := hid (R0.out.kept k1 (fun h => by have : (w.heap.size + 1) = bp := h; omega))
 have K1 := hid (K0.out.trans k1); have A1 := hid a1; have H1 := hid h1; have hs1 := k1.size
 clear h1 a1 k1 cP0 P0 R0 K0 A0
 go_upto_region 2 with fail
 have V2 := Blk.new W1 44 [.string ⟨nm.toArray⟩, .slice none 0 0, .int .i64 (at_ : Nat)]
 have P2 := P1.out.alloc (.cells #[.string ⟨nm.toArray⟩, .slice none 0 0, .int .i64 (at_ : Nat)] 44)
 have R2 := R1.out.alloc (.cells #[.string ⟨nm.toArray⟩, .slice none 0 0, .int .i64 (at_ : Nat)] 44)
 have K2 := K1.out.alloc (.cells #[.string ⟨nm.toArray⟩, .slice none 0 0, .int .i64 (at_ : Nat)] 44)
 have A2 := A1.out.kept (E := fun _ => False) ((Kp.refl _ _).alloc (.cells #[.string ⟨nm.toArray⟩, .slice none 0 0, .int .i64 (at_ : Nat)] 44)) (fun _ h => h.elim)
 have hs2 : W1.heap.size < (W1.alloc (.cells #[.string ⟨nm.toArray⟩, .slice none 0 0, .int .i64 (at_ : Nat)] 44)).heap.size := by simp
 generalize W1.alloc (.cells #[.string ⟨nm.toArray⟩, .slice none 0 0, .int .i64 (at_ : Nat)] 44) = W2 at *
 generalize W1.heap.size = vb at *
 have P2 := hid P2
 have R2 := hid R2
 have V2 := hid V2
 have K2 := hid K2; have A2 := hid A2
 clear P1 R1 K1 A1
 have cP0 := P2.out.cell (i := 0) rfl
 go_wp2_with fail
 refine (word_any bp L r1 wOpen _ A2.out).mono ?_
 rintro e W3 (⟨x2, r3, h3, rfl, a3, k3⟩ | ⟨r3, h3, rfl, k3⟩)
 rotate_left
 ·have KK := hid (K2.out.trans k3); have HB := hid h3
  clear h3 k3
  unfold failP
  go_wp2
  refine ⟨rfl, gives_bad _ ?_ KK.out⟩
  show blockP at_ ts = _
  unfold blockP
  rw [then_of H1.out, then_bad HB.out]
 have P3 := hid (P2.out.kept k3 (fun h => by have : w.heap.size = bp := h; omega))
 have R3 := hid (R2.out.kept k3 (fun h => by have : (w.heap.size + 1) = bp := h; omega))
 have V3 := hid (V2.out.kept k3 (fun h => by have : vb = bp := h; omega))
 have K3 := hid (K2.out.trans k3); have A3 := hid a3; have H3 := hid h3; have hs3 := k3.size
 clear h3 a3 k3 cP0 P2 R2 V2 K2 A2
 have hln : r3.length ≤ 5000 := by
   have l0 := shrink det_name H1.out
   have l1 := shrink (det_word _) H3.out
   omega
 have hpl := P3.out.lt; have hvl := V3.out.lt; have hbl := A3.out.lt
 have cP := P3.out.cell (i := 0) rfl
 go_wp2_with fail
 refine (until_any bp L wClose rowP eats_row 165 blockC_ent #[.pointer (some ⟨vb, 0, none⟩), .pointer (some ⟨w.heap.size, 0, none⟩)]
  (fun ms W => ∃ v, Blk W vb 44 [.string ⟨nm.toArray⟩, v, .int .i64 (at_ : Nat)] ∧ Building rowK W (fun k => W3.heap.size ≤ k ∧ v.ownBlock ≠ some k) W3.heap.size 40 v ms ∧ Kp (fun k => k = bp ∨ k = vb ∨ W3.heap.size ≤ k) W3 W)
  (fun W => Kp (fun k => k = bp ∨ k = vb ∨ W3.heap.size ≤ k) W3 W) ?keep ?fin 5000 ?step fuel r3 (by unfold fuel; omega) [] (by simpa using hln) W3 ⟨_, V3.out, building_nil _ _ _ _ _, Kp.refl _ _⟩ A3.out).mono ?_
 case keep =>
  rintro ms W W' ⟨v, h1, h2, h3⟩ hk
  exact ⟨v, h1.kept hk (fun h => by have : vb = bp := h; omega), h2.kept (fun k hk' => hk.block k (h2.lt hk').2 (fun h => by have := (h2.lt hk').1; have : k = bp := h; omega)) (fun k hk' hlt => hk.block k hlt (fun h => by have := hk'.1; have : k = bp := h; omega)) (fun _ h _ => h), h3.call hk (fun k h => Or.inl (Or.inl h))⟩
 case fin =>
  rintro ms W W' ⟨v, h1, h2, h3⟩ hk
  exact h3.call hk (fun k h => Or.inl (Or.inl h))
 case step =>
  rintro ms W us ⟨v, h1, h2, h3⟩ hA hN
  refine (blockC_any bp L vb w.heap.size W3.heap.size us (.string ⟨nm.toArray⟩) (.int .i64 (at_ : Nat)) v ms W hA h1 (P3.out.kept h3 (fun h => by omega)) h2 h3.size (by omega) (by omega) (by omega) (by omega) (by omega) (by omega) (by omega)).mono ?_
  rintro e W2 (⟨m, q, k1, rfl, ⟨v', k2, k3⟩, k4, k5⟩ | ⟨q, k1, rfl, k5⟩)
  ·exact Or.inl ⟨m, q, k1, rfl, ⟨v', k2, k3, h3.trans k5⟩, k4⟩
  ·exact Or.inr ⟨q, k1, rfl, h3.trans k5⟩
 rintro e W4 (⟨rs, r4, h4, rfl, ⟨v, v4, b4, k4⟩, a4⟩ | ⟨r4, h4, rfl, k4⟩)
 rotate_left
 ·have KK := hid (K3.out.call k4 (fun k hk => by rcases hk with h | h | h; exact Or.inl h; exact Or.inr (by omega); exact Or.inr (by omega))); have HB := hid h4
  clear h4 k4
  unfold failP
  go_wp2
  refine ⟨rfl, gives_bad _ ?_ KK.out⟩
  show blockP at_ ts = _
  unfold blockP
  rw [then_of H1.out, then_of H3.out, then_bad HB.out]
 obtain ⟨sa, sn, sc, rfl⟩ := b4.slice
 have P4 := hid (P3.out.kept k4 (fun h => by omega))
 have R4 := hid (R3.out.kept k4 (fun h => by omega))
 have V4 := hid v4
 have K4 := hid (K3.out.call k4 (fun k hk => by rcases hk with h | h | h; exact Or.inl h; exact Or.inr (by omega); exact Or.inr (by omega))); have A4 := hid a4; have H4 := hid h4; have HBU := hid b4; have hs4 := k4.size
 clear h4 a4 k4 v4 b4 cP hln P3 R3 V3 K3 A3
 have x0 := V4.out.cell (i := 0) rfl
 have x1 := V4.out.cell (i := 1) rfl
 have x2 := V4.out.cell (i := 2) rfl
 have z0 := R4.out.cell (i := 0) rfl
 have z1 := R4.out.cell (i := 1) rfl
 have z2 := R4.out.cell (i := 2) rfl
 have zf := R4.out.free
 go_wp2
 rw [setCells_three]
 refine bodyPost_ret (results_cell_mid rfl _ _ ((w.heap.size + 1)) [.string ⟨nm.toArray⟩, .slice sa sn sc, .int .i64 (at_ : Nat)] _ rfl (R4.out.whole (vs := [.string ⟨nm.toArray⟩, .slice sa sn sc, .int .i64 (at_ : Nat)]) rfl).range Tryz.underlying44 rfl (by kernel_rfl)) rfl ?_
 refine gives_ok (⟨nm, rs, at_⟩) r4 ?_ ?_ (A4.out.result (by omega) _) (K4.out.result (by omega) _)
 ·show blockP at_ ts = _
  unfold blockP
  rw [then_of H1.out, then_of H3.out, then_of H4.out]
  rfl
 ·exact ⟨_, rfl, _, rfl, HBU.out.result (by omega) (by omega) _⟩
end Go.Proofs.YtilfpnkcgjonhaaGreatDoor.Pl
namespace Go.Proofs.YtilfpnkcgjonhaaGreatDoor.Pl
open Go.RowKit Go.Sort Go.Shelf Foyer.Plan
def Fv (base : Nat) (vs : List Value) (k : Nat) : Prop := base ≤ k ∧ ∀ v ∈ vs, v.ownBlock ≠ some k
def Apart (vs : List Value) : Prop := vs.Pairwise fun a b => ∀ k, a.ownBlock = some k → b.ownBlock ≠ some k
theorem fv_moved {base N M k : Nat} {pre post : List Value} {vi vi' : Value} (h : Fv base (pre ++ vi :: post) k) (hk : k < N) (hat : vi'.ownBlock = vi.ownBlock ∨ vi'.ownBlock = some M) (hM : N ≤ M) : Fv base (pre ++ vi' :: post) k := by
 refine ⟨h.1, fun v hv => ?_⟩
 rcases List.mem_append.1 hv with hv | hv
 ·exact h.2 v (List.mem_append_left _ hv)
 ·rcases List.mem_cons.1 hv with rfl | hv
  ·rcases hat with e | e
   ·rw [e]; exact h.2 vi (List.mem_append_right _ List.mem_cons_self)
   ·rw [e]; intro e2; cases e2; omega
  ·exact h.2 v (List.mem_append_right _ (List.mem_cons_of_mem _ hv))
theorem apart_moved {N M : Nat} {pre post : List Value} {vi vi' : Value} (h : Apart (pre ++ vi :: post)) (hlt : ∀ v ∈ pre ++ vi :: post, ∀ k, v.ownBlock = some k → k < N) (hat : vi'.ownBlock = vi.ownBlock ∨ vi'.ownBlock = some M) (hM : N ≤ M) : Apart (pre ++ vi' :: post) := by
 unfold Apart at *
 rw [List.pairwise_append, List.pairwise_cons] at *
 obtain ⟨h1, ⟨h2, h3⟩, h4⟩ := h
 refine ⟨h1, ⟨fun b hb k hk => ?_, h3⟩, fun a ha b hb k hk => ?_⟩
 ·rcases hat with e | e
  ·rw [e] at hk; exact h2 b hb k hk
  ·rw [e] at hk
   cases hk
   intro e2
   have := hlt b (List.mem_append_right _ (List.mem_cons_of_mem _ hb)) _ e2
   omega
 ·rcases List.mem_cons.1 hb with rfl | hb
  ·rcases hat with e | e
   ·rw [e]; exact h4 a ha vi List.mem_cons_self k hk
   ·rw [e]
    intro e2
    cases e2
    have := hlt a (List.mem_append_left _ ha) _ hk
    omega
  ·exact h4 a ha b (List.mem_cons_of_mem _ hb) k hk
section
variable {α : Type} {K : Kind α} {W W2 : World} {base M : Nat} {T : TypeId} {pre post : List Value} {vi vi' vj : Value} {xs : List α}
theorem building_other (hb : Building K W (Fv base (pre ++ vi :: post)) base T vj xs) (hj : ∀ k, vj.ownBlock = some k → vi.ownBlock ≠ some k) (hgr : ∀ k, k < W.heap.size → vi.ownBlock ≠ some k → W2.heap[k]? = W.heap[k]?) (hat : vi'.ownBlock = vi.ownBlock ∨ vi'.ownBlock = some M) (hM : W.heap.size ≤ M) :
  Building K W2 (Fv base (pre ++ vi' :: post)) base T vj xs :=
 hb.kept (fun k hk => hgr k (hb.lt hk).2 (hj k hk)) (fun k hk hlt => hgr k hlt (hk.2 vi (List.mem_append_right _ List.mem_cons_self))) (fun _ hk hlt => fv_moved hk hlt hat hM)
theorem building_self {css : List (List Value)} {c : List Value} {a : α} {N : Nat} (hall : All2 (K.is W (Fv base (pre ++ vi :: post))) css xs) (hc : K.is W (fun k => N ≤ k) c a) (hN : base ≤ N) (hold : ∀ v ∈ pre ++ vi :: post, ∀ k, v.ownBlock = some k → k < N)
  (hcon : Con W2 base T K.size vi' (css ++ [c])) (hgr : ∀ k, k < W.heap.size → vi.ownBlock ≠ some k → W2.heap[k]? = W.heap[k]?) (hat : vi'.ownBlock = vi.ownBlock ∨ vi'.ownBlock = some M) (hM : W.heap.size ≤ M) :
  Building K W2 (Fv base (pre ++ vi' :: post)) base T vi' (xs ++ [a]) := by
 refine ⟨css ++ [c], hcon, All2.snoc (All2.imp hall fun b x h => ?_) ?_⟩
 ·exact K.moved h (fun k hk hlt => hgr k hlt (hk.2 vi (List.mem_append_right _ List.mem_cons_self))) (fun _ hk hlt => fv_moved hk hlt hat hM)
 ·refine K.moved hc (fun k hk hlt => hgr k hlt (fun e => ?_)) (fun k hk hlt => fv_moved (vi := vi) ⟨Nat.le_trans hN hk, fun v hv e => ?_⟩ hlt hat hM)
  ·have := hold vi (List.mem_append_right _ List.mem_cons_self) k e
   have h2 : N ≤ k := hk
   omega
  ·have := hold v hv k e
   have h2 : N ≤ k := hk
   omega
end
structure LvSt (W : World) (lb base : Nat) (c0 c1 c7 v1 v2 v3 v4 v5 : Value) (is : List ItemP) : Prop where
 blk : Blk W lb 50 [c0, c1, v1, v2, v3, v4, v5, c7]
 b1 : Building blockK W (Fv base [v1, v2, v3, v4, v5]) base 44 v1 (blocksOf is)
 b2 : Building areaK W (Fv base [v1, v2, v3, v4, v5]) base 76 v2 (areasOf is)
 b3 : Building boxK W (Fv base [v1, v2, v3, v4, v5]) base 74 v3 (aislesOf is)
 b4 : Building boxK W (Fv base [v1, v2, v3, v4, v5]) base 74 v4 (pillarsOf is)
 b5 : Building pointK W (Fv base [v1, v2, v3, v4, v5]) base 23 v5 (doorsOf is)
 apart : Apart [v1, v2, v3, v4, v5]
theorem LvSt.lt {W : World} {lb base : Nat} {c0 c1 c7 v1 v2 v3 v4 v5 : Value} {is : List ItemP} (h : LvSt W lb base c0 c1 c7 v1 v2 v3 v4 v5 is) : ∀ v ∈ [v1, v2, v3, v4, v5], ∀ k, v.ownBlock = some k → base ≤ k ∧ k < W.heap.size := by
 intro v hv k hk
 simp only [List.mem_cons, List.not_mem_nil, or_false] at hv
 rcases hv with rfl | rfl | rfl | rfl | rfl
 ·exact h.b1.lt hk
 ·exact h.b2.lt hk
 ·exact h.b3.lt hk
 ·exact h.b4.lt hk
 ·exact h.b5.lt hk
theorem LvSt.kept {W W' : World} {E : Nat → Prop} {lb base : Nat} {c0 c1 c7 v1 v2 v3 v4 v5 : Value} {is : List ItemP} (h : LvSt W lb base c0 c1 c7 v1 v2 v3 v4 v5 is) (hk : Kp E W W') (hE : ∀ k, E k → k < base ∧ k ≠ lb) : LvSt W' lb base c0 c1 c7 v1 v2 v3 v4 v5 is := by
 have hl := h.lt
 have hv : ∀ v ∈ [v1, v2, v3, v4, v5], ∀ k, v.ownBlock = some k → W'.heap[k]? = W.heap[k]? := fun v hv k e => hk.block k (hl v hv k e).2 fun he => by have := (hE k he).1; have := (hl v hv k e).1; omega
 have hF : ∀ k, Fv base [v1, v2, v3, v4, v5] k → k < W.heap.size → W'.heap[k]? = W.heap[k]? := fun k hf hlt => hk.block k hlt fun he => by have := (hE k he).1; have := hf.1; omega
 exact ⟨h.blk.kept hk (fun he => (hE _ he).2 rfl), h.b1.kept (hv v1 (by simp)) hF (fun _ h _ => h), h.b2.kept (hv v2 (by simp)) hF (fun _ h _ => h), h.b3.kept (hv v3 (by simp)) hF (fun _ h _ => h), h.b4.kept (hv v4 (by simp)) hF (fun _ h _ => h), h.b5.kept (hv v5 (by simp)) hF (fun _ h _ => h), h.apart⟩
theorem apart_five {v1 v2 v3 v4 v5 : Value} (h : Apart [v1, v2, v3, v4, v5]) : (∀ k, v1.ownBlock = some k → v2.ownBlock ≠ some k ∧ v3.ownBlock ≠ some k ∧ v4.ownBlock ≠ some k ∧ v5.ownBlock ≠ some k) ∧ (∀ k, v2.ownBlock = some k → v3.ownBlock ≠ some k ∧ v4.ownBlock ≠ some k ∧ v5.ownBlock ≠ some k) ∧ (∀ k, v3.ownBlock = some k → v4.ownBlock ≠ some k ∧ v5.ownBlock ≠ some k) ∧ ∀ k, v4.ownBlock = some k → v5.ownBlock ≠ some k := by
 unfold Apart at h
 simp only [List.pairwise_cons, List.mem_cons, List.not_mem_nil, or_false, forall_eq_or_imp, forall_eq] at h
 obtain ⟨⟨a1, a2, a3, a4⟩, ⟨b1, b2, b3⟩, ⟨d1, d2⟩, e1, _⟩ := h
 exact ⟨fun k hk => ⟨a1 k hk, a2 k hk, a3 k hk, a4 k hk⟩, fun k hk => ⟨b1 k hk, b2 k hk, b3 k hk⟩, fun k hk => ⟨d1 k hk, d2 k hk⟩, fun k hk => e1 k hk⟩
theorem LvSt.block {W W2 : World} {lb base N M : Nat} {c0 c1 c7 v1 v2 v3 v4 v5 v' : Value} {is : List ItemP} {css : List (List Value)} {c : List Value} {a : BlockP} (h : LvSt W lb base c0 c1 c7 v1 v2 v3 v4 v5 is) (hlb : lb < base)
  (hall : All2 (blockK.is W (Fv base [v1, v2, v3, v4, v5])) css (blocksOf is)) (hc : blockK.is W (fun k => N ≤ k) c a) (hN : base ≤ N) (hold : ∀ v ∈ [v1, v2, v3, v4, v5], ∀ k, v.ownBlock = some k → k < N)
  (hcon : Con W2 base 44 blockK.size v' (css ++ [c])) (hgr : ∀ k, k < W.heap.size → v1.ownBlock ≠ some k → W2.heap[k]? = W.heap[k]?) (hat : v'.ownBlock = v1.ownBlock ∨ v'.ownBlock = some M) (hM : W.heap.size ≤ M) :
  LvSt (W2.setCell ⟨lb, 2, none⟩ v') lb base c0 c1 c7 v' v2 v3 v4 v5 (is ++ [.block a]) := by
 obtain ⟨ap1, ap2, ap3, ap4⟩ := apart_five h.apart
 have hlt := h.lt
 have hm : ∀ {β : Type} {K : Kind β} {T : TypeId} {v : Value} {xs : List β} (vs : List Value), (∀ x, x ∈ vs → x ∈ vs) → Building K W2 (Fv base vs) base T v xs → Building K (W2.setCell ⟨lb, 2, none⟩ v') (Fv base vs) base T v xs := fun vs _ hb =>
  hb.kept (fun k hk => Below.heap_setCell _ _ _ _ (by have := (hb.lt hk).1; show k ≠ lb; omega)) (fun k hk _ => Below.heap_setCell _ _ _ _ (by have := hk.1; show k ≠ lb; omega)) (fun _ h _ => h)
 have hne : v1.ownBlock ≠ some lb := fun e => by have := (hlt v1 (by simp) lb e).1; omega
 have hb2 : Blk W2 lb 50 [c0, c1, v1, v2, v3, v4, v5, c7] := (hgr lb h.blk.lt hne).trans h.blk
 refine ⟨hb2.set 2 v',
  (by
  have hs := building_self (pre := []) (post := [v2, v3, v4, v5]) hall hc hN (fun v hv k hk => hold v hv k hk) hcon hgr hat hM
  have e : blocksOf (is ++ [.block a]) = blocksOf is ++ [a] := by unfold blocksOf; rw [List.filterMap_append]; rfl
  rw [e]; exact hm _ (fun _ h => h) hs),
  (by
  have e : areasOf (is ++ [.block a]) = areasOf is := by unfold areasOf; rw [List.filterMap_append]; simp
  rw [e]; exact hm _ (fun _ h => h) (building_other (pre := []) (post := [v2, v3, v4, v5]) h.b2 (fun k hk e => (ap1 k e).1 hk) hgr hat hM)),
  (by
  have e : aislesOf (is ++ [.block a]) = aislesOf is := by unfold aislesOf; rw [List.filterMap_append]; simp
  rw [e]; exact hm _ (fun _ h => h) (building_other (pre := []) (post := [v2, v3, v4, v5]) h.b3 (fun k hk e => (ap1 k e).2.1 hk) hgr hat hM)),
  (by
  have e : pillarsOf (is ++ [.block a]) = pillarsOf is := by unfold pillarsOf; rw [List.filterMap_append]; simp
  rw [e]; exact hm _ (fun _ h => h) (building_other (pre := []) (post := [v2, v3, v4, v5]) h.b4 (fun k hk e => (ap1 k e).2.2.1 hk) hgr hat hM)),
  (by
  have e : doorsOf (is ++ [.block a]) = doorsOf is := by unfold doorsOf; rw [List.filterMap_append]; simp
  rw [e]; exact hm _ (fun _ h => h) (building_other (pre := []) (post := [v2, v3, v4, v5]) h.b5 (fun k hk e => (ap1 k e).2.2.2 hk) hgr hat hM)),
  apart_moved (N := W.heap.size) (pre := []) (post := [v2, v3, v4, v5]) h.apart (fun v hv k hk => (hlt v hv k hk).2) hat hM⟩
theorem LvSt.area {W W2 : World} {lb base N M : Nat} {c0 c1 c7 v1 v2 v3 v4 v5 v' : Value} {is : List ItemP} {css : List (List Value)} {c : List Value} {a : AreaP} (h : LvSt W lb base c0 c1 c7 v1 v2 v3 v4 v5 is) (hlb : lb < base)
  (hall : All2 (areaK.is W (Fv base [v1, v2, v3, v4, v5])) css (areasOf is)) (hc : areaK.is W (fun k => N ≤ k) c a) (hN : base ≤ N) (hold : ∀ v ∈ [v1, v2, v3, v4, v5], ∀ k, v.ownBlock = some k → k < N)
  (hcon : Con W2 base 76 areaK.size v' (css ++ [c])) (hgr : ∀ k, k < W.heap.size → v2.ownBlock ≠ some k → W2.heap[k]? = W.heap[k]?) (hat : v'.ownBlock = v2.ownBlock ∨ v'.ownBlock = some M) (hM : W.heap.size ≤ M) :
  LvSt (W2.setCell ⟨lb, 3, none⟩ v') lb base c0 c1 c7 v1 v' v3 v4 v5 (is ++ [.area a]) := by
 obtain ⟨ap1, ap2, ap3, ap4⟩ := apart_five h.apart
 have hlt := h.lt
 have hm : ∀ {β : Type} {K : Kind β} {T : TypeId} {v : Value} {xs : List β} (vs : List Value), (∀ x, x ∈ vs → x ∈ vs) → Building K W2 (Fv base vs) base T v xs → Building K (W2.setCell ⟨lb, 3, none⟩ v') (Fv base vs) base T v xs := fun vs _ hb =>
  hb.kept (fun k hk => Below.heap_setCell _ _ _ _ (by have := (hb.lt hk).1; show k ≠ lb; omega)) (fun k hk _ => Below.heap_setCell _ _ _ _ (by have := hk.1; show k ≠ lb; omega)) (fun _ h _ => h)
 have hne : v2.ownBlock ≠ some lb := fun e => by have := (hlt v2 (by simp) lb e).1; omega
 have hb2 : Blk W2 lb 50 [c0, c1, v1, v2, v3, v4, v5, c7] := (hgr lb h.blk.lt hne).trans h.blk
 refine ⟨hb2.set 3 v',
  (by
  have e : blocksOf (is ++ [.area a]) = blocksOf is := by unfold blocksOf; rw [List.filterMap_append]; simp
  rw [e]; exact hm _ (fun _ h => h) (building_other (pre := [v1]) (post := [v3, v4, v5]) h.b1 (fun k hk => (ap1 k hk).1) hgr hat hM)),
  (by
  have hs := building_self (pre := [v1]) (post := [v3, v4, v5]) hall hc hN (fun v hv k hk => hold v hv k hk) hcon hgr hat hM
  have e : areasOf (is ++ [.area a]) = areasOf is ++ [a] := by unfold areasOf; rw [List.filterMap_append]; rfl
  rw [e]; exact hm _ (fun _ h => h) hs),
  (by
  have e : aislesOf (is ++ [.area a]) = aislesOf is := by unfold aislesOf; rw [List.filterMap_append]; simp
  rw [e]; exact hm _ (fun _ h => h) (building_other (pre := [v1]) (post := [v3, v4, v5]) h.b3 (fun k hk e => (ap2 k e).1 hk) hgr hat hM)),
  (by
  have e : pillarsOf (is ++ [.area a]) = pillarsOf is := by unfold pillarsOf; rw [List.filterMap_append]; simp
  rw [e]; exact hm _ (fun _ h => h) (building_other (pre := [v1]) (post := [v3, v4, v5]) h.b4 (fun k hk e => (ap2 k e).2.1 hk) hgr hat hM)),
  (by
  have e : doorsOf (is ++ [.area a]) = doorsOf is := by unfold doorsOf; rw [List.filterMap_append]; simp
  rw [e]; exact hm _ (fun _ h => h) (building_other (pre := [v1]) (post := [v3, v4, v5]) h.b5 (fun k hk e => (ap2 k e).2.2 hk) hgr hat hM)),
  apart_moved (N := W.heap.size) (pre := [v1]) (post := [v3, v4, v5]) h.apart (fun v hv k hk => (hlt v hv k hk).2) hat hM⟩
theorem LvSt.aisle {W W2 : World} {lb base N M : Nat} {c0 c1 c7 v1 v2 v3 v4 v5 v' : Value} {is : List ItemP} {css : List (List Value)} {c : List Value} {a : BoxP} (h : LvSt W lb base c0 c1 c7 v1 v2 v3 v4 v5 is) (hlb : lb < base)
  (hall : All2 (boxK.is W (Fv base [v1, v2, v3, v4, v5])) css (aislesOf is)) (hc : boxK.is W (fun k => N ≤ k) c a) (hN : base ≤ N) (hold : ∀ v ∈ [v1, v2, v3, v4, v5], ∀ k, v.ownBlock = some k → k < N)
  (hcon : Con W2 base 74 boxK.size v' (css ++ [c])) (hgr : ∀ k, k < W.heap.size → v3.ownBlock ≠ some k → W2.heap[k]? = W.heap[k]?) (hat : v'.ownBlock = v3.ownBlock ∨ v'.ownBlock = some M) (hM : W.heap.size ≤ M) :
  LvSt (W2.setCell ⟨lb, 4, none⟩ v') lb base c0 c1 c7 v1 v2 v' v4 v5 (is ++ [.aisle a]) := by
 obtain ⟨ap1, ap2, ap3, ap4⟩ := apart_five h.apart
 have hlt := h.lt
 have hm : ∀ {β : Type} {K : Kind β} {T : TypeId} {v : Value} {xs : List β} (vs : List Value), (∀ x, x ∈ vs → x ∈ vs) → Building K W2 (Fv base vs) base T v xs → Building K (W2.setCell ⟨lb, 4, none⟩ v') (Fv base vs) base T v xs := fun vs _ hb =>
  hb.kept (fun k hk => Below.heap_setCell _ _ _ _ (by have := (hb.lt hk).1; show k ≠ lb; omega)) (fun k hk _ => Below.heap_setCell _ _ _ _ (by have := hk.1; show k ≠ lb; omega)) (fun _ h _ => h)
 have hne : v3.ownBlock ≠ some lb := fun e => by have := (hlt v3 (by simp) lb e).1; omega
 have hb2 : Blk W2 lb 50 [c0, c1, v1, v2, v3, v4, v5, c7] := (hgr lb h.blk.lt hne).trans h.blk
 refine ⟨hb2.set 4 v',
  (by
  have e : blocksOf (is ++ [.aisle a]) = blocksOf is := by unfold blocksOf; rw [List.filterMap_append]; simp
  rw [e]; exact hm _ (fun _ h => h) (building_other (pre := [v1, v2]) (post := [v4, v5]) h.b1 (fun k hk => (ap1 k hk).2.1) hgr hat hM)),
  (by
  have e : areasOf (is ++ [.aisle a]) = areasOf is := by unfold areasOf; rw [List.filterMap_append]; simp
  rw [e]; exact hm _ (fun _ h => h) (building_other (pre := [v1, v2]) (post := [v4, v5]) h.b2 (fun k hk => (ap2 k hk).1) hgr hat hM)),
  (by
  have hs := building_self (pre := [v1, v2]) (post := [v4, v5]) hall hc hN (fun v hv k hk => hold v hv k hk) hcon hgr hat hM
  have e : aislesOf (is ++ [.aisle a]) = aislesOf is ++ [a] := by unfold aislesOf; rw [List.filterMap_append]; rfl
  rw [e]; exact hm _ (fun _ h => h) hs),
  (by
  have e : pillarsOf (is ++ [.aisle a]) = pillarsOf is := by unfold pillarsOf; rw [List.filterMap_append]; simp
  rw [e]; exact hm _ (fun _ h => h) (building_other (pre := [v1, v2]) (post := [v4, v5]) h.b4 (fun k hk e => (ap3 k e).1 hk) hgr hat hM)),
  (by
  have e : doorsOf (is ++ [.aisle a]) = doorsOf is := by unfold doorsOf; rw [List.filterMap_append]; simp
  rw [e]; exact hm _ (fun _ h => h) (building_other (pre := [v1, v2]) (post := [v4, v5]) h.b5 (fun k hk e => (ap3 k e).2 hk) hgr hat hM)),
  apart_moved (N := W.heap.size) (pre := [v1, v2]) (post := [v4, v5]) h.apart (fun v hv k hk => (hlt v hv k hk).2) hat hM⟩
theorem LvSt.pillar {W W2 : World} {lb base N M : Nat} {c0 c1 c7 v1 v2 v3 v4 v5 v' : Value} {is : List ItemP} {css : List (List Value)} {c : List Value} {a : BoxP} (h : LvSt W lb base c0 c1 c7 v1 v2 v3 v4 v5 is) (hlb : lb < base)
  (hall : All2 (boxK.is W (Fv base [v1, v2, v3, v4, v5])) css (pillarsOf is)) (hc : boxK.is W (fun k => N ≤ k) c a) (hN : base ≤ N) (hold : ∀ v ∈ [v1, v2, v3, v4, v5], ∀ k, v.ownBlock = some k → k < N)
  (hcon : Con W2 base 74 boxK.size v' (css ++ [c])) (hgr : ∀ k, k < W.heap.size → v4.ownBlock ≠ some k → W2.heap[k]? = W.heap[k]?) (hat : v'.ownBlock = v4.ownBlock ∨ v'.ownBlock = some M) (hM : W.heap.size ≤ M) :
  LvSt (W2.setCell ⟨lb, 5, none⟩ v') lb base c0 c1 c7 v1 v2 v3 v' v5 (is ++ [.pillar a]) := by
 obtain ⟨ap1, ap2, ap3, ap4⟩ := apart_five h.apart
 have hlt := h.lt
 have hm : ∀ {β : Type} {K : Kind β} {T : TypeId} {v : Value} {xs : List β} (vs : List Value), (∀ x, x ∈ vs → x ∈ vs) → Building K W2 (Fv base vs) base T v xs → Building K (W2.setCell ⟨lb, 5, none⟩ v') (Fv base vs) base T v xs := fun vs _ hb =>
  hb.kept (fun k hk => Below.heap_setCell _ _ _ _ (by have := (hb.lt hk).1; show k ≠ lb; omega)) (fun k hk _ => Below.heap_setCell _ _ _ _ (by have := hk.1; show k ≠ lb; omega)) (fun _ h _ => h)
 have hne : v4.ownBlock ≠ some lb := fun e => by have := (hlt v4 (by simp) lb e).1; omega
 have hb2 : Blk W2 lb 50 [c0, c1, v1, v2, v3, v4, v5, c7] := (hgr lb h.blk.lt hne).trans h.blk
 refine ⟨hb2.set 5 v',
  (by
  have e : blocksOf (is ++ [.pillar a]) = blocksOf is := by unfold blocksOf; rw [List.filterMap_append]; simp
  rw [e]; exact hm _ (fun _ h => h) (building_other (pre := [v1, v2, v3]) (post := [v5]) h.b1 (fun k hk => (ap1 k hk).2.2.1) hgr hat hM)),
  (by
  have e : areasOf (is ++ [.pillar a]) = areasOf is := by unfold areasOf; rw [List.filterMap_append]; simp
  rw [e]; exact hm _ (fun _ h => h) (building_other (pre := [v1, v2, v3]) (post := [v5]) h.b2 (fun k hk => (ap2 k hk).2.1) hgr hat hM)),
  (by
  have e : aislesOf (is ++ [.pillar a]) = aislesOf is := by unfold aislesOf; rw [List.filterMap_append]; simp
  rw [e]; exact hm _ (fun _ h => h) (building_other (pre := [v1, v2, v3]) (post := [v5]) h.b3 (fun k hk => (ap3 k hk).1) hgr hat hM)),
  (by
  have hs := building_self (pre := [v1, v2, v3]) (post := [v5]) hall hc hN (fun v hv k hk => hold v hv k hk) hcon hgr hat hM
  have e : pillarsOf (is ++ [.pillar a]) = pillarsOf is ++ [a] := by unfold pillarsOf; rw [List.filterMap_append]; rfl
  rw [e]; exact hm _ (fun _ h => h) hs),
  (by
  have e : doorsOf (is ++ [.pillar a]) = doorsOf is := by unfold doorsOf; rw [List.filterMap_append]; simp
  rw [e]; exact hm _ (fun _ h => h) (building_other (pre := [v1, v2, v3]) (post := [v5]) h.b5 (fun k hk e => ap4 k e hk) hgr hat hM)),
  apart_moved (N := W.heap.size) (pre := [v1, v2, v3]) (post := [v5]) h.apart (fun v hv k hk => (hlt v hv k hk).2) hat hM⟩
theorem LvSt.door {W W2 : World} {lb base N M : Nat} {c0 c1 c7 v1 v2 v3 v4 v5 v' : Value} {is : List ItemP} {css : List (List Value)} {c : List Value} {a : (Nat × Nat)} (h : LvSt W lb base c0 c1 c7 v1 v2 v3 v4 v5 is) (hlb : lb < base)
  (hall : All2 (pointK.is W (Fv base [v1, v2, v3, v4, v5])) css (doorsOf is)) (hc : pointK.is W (fun k => N ≤ k) c a) (hN : base ≤ N) (hold : ∀ v ∈ [v1, v2, v3, v4, v5], ∀ k, v.ownBlock = some k → k < N)
  (hcon : Con W2 base 23 pointK.size v' (css ++ [c])) (hgr : ∀ k, k < W.heap.size → v5.ownBlock ≠ some k → W2.heap[k]? = W.heap[k]?) (hat : v'.ownBlock = v5.ownBlock ∨ v'.ownBlock = some M) (hM : W.heap.size ≤ M) :
  LvSt (W2.setCell ⟨lb, 6, none⟩ v') lb base c0 c1 c7 v1 v2 v3 v4 v' (is ++ [.door a]) := by
 obtain ⟨ap1, ap2, ap3, ap4⟩ := apart_five h.apart
 have hlt := h.lt
 have hm : ∀ {β : Type} {K : Kind β} {T : TypeId} {v : Value} {xs : List β} (vs : List Value), (∀ x, x ∈ vs → x ∈ vs) → Building K W2 (Fv base vs) base T v xs → Building K (W2.setCell ⟨lb, 6, none⟩ v') (Fv base vs) base T v xs := fun vs _ hb =>
  hb.kept (fun k hk => Below.heap_setCell _ _ _ _ (by have := (hb.lt hk).1; show k ≠ lb; omega)) (fun k hk _ => Below.heap_setCell _ _ _ _ (by have := hk.1; show k ≠ lb; omega)) (fun _ h _ => h)
 have hne : v5.ownBlock ≠ some lb := fun e => by have := (hlt v5 (by simp) lb e).1; omega
 have hb2 : Blk W2 lb 50 [c0, c1, v1, v2, v3, v4, v5, c7] := (hgr lb h.blk.lt hne).trans h.blk
 refine ⟨hb2.set 6 v',
  (by
  have e : blocksOf (is ++ [.door a]) = blocksOf is := by unfold blocksOf; rw [List.filterMap_append]; simp
  rw [e]; exact hm _ (fun _ h => h) (building_other (pre := [v1, v2, v3, v4]) (post := []) h.b1 (fun k hk => (ap1 k hk).2.2.2) hgr hat hM)),
  (by
  have e : areasOf (is ++ [.door a]) = areasOf is := by unfold areasOf; rw [List.filterMap_append]; simp
  rw [e]; exact hm _ (fun _ h => h) (building_other (pre := [v1, v2, v3, v4]) (post := []) h.b2 (fun k hk => (ap2 k hk).2.2) hgr hat hM)),
  (by
  have e : aislesOf (is ++ [.door a]) = aislesOf is := by unfold aislesOf; rw [List.filterMap_append]; simp
  rw [e]; exact hm _ (fun _ h => h) (building_other (pre := [v1, v2, v3, v4]) (post := []) h.b3 (fun k hk => (ap3 k hk).2) hgr hat hM)),
  (by
  have e : pillarsOf (is ++ [.door a]) = pillarsOf is := by unfold pillarsOf; rw [List.filterMap_append]; simp
  rw [e]; exact hm _ (fun _ h => h) (building_other (pre := [v1, v2, v3, v4]) (post := []) h.b4 (fun k hk => ap4 k hk) hgr hat hM)),
  (by
  have hs := building_self (pre := [v1, v2, v3, v4]) (post := []) hall hc hN (fun v hv k hk => hold v hv k hk) hcon hgr hat hM
  have e : doorsOf (is ++ [.door a]) = doorsOf is ++ [a] := by unfold doorsOf; rw [List.filterMap_append]; rfl
  rw [e]; exact hm _ (fun _ h => h) hs),
  apart_moved (N := W.heap.size) (pre := [v1, v2, v3, v4]) (post := []) h.apart (fun v hv k hk => (hlt v hv k hk).2) hat hM⟩
end Go.Proofs.YtilfpnkcgjonhaaGreatDoor.Pl
namespace Go.Proofs.YtilfpnkcgjonhaaGreatDoor.Pl
open Go.RowKit Go.Sort Go.Shelf Foyer.Plan Foyer.Round
theorem item1_ent (args : Array Value) (w : World) : (callFunc 139 args).run Tryz.prog w = .ok (.enter 139 args) w := enters_of Tryz.func139 (by kernel_rfl) rfl args w
theorem item1_info : (Tryz.prog.info? 44).map (fun i => (i.zero, i.size, i.bytes)) = some (some (.agg #[.string ⟨#[]⟩, .slice none 0 0, .int .i64 0]), blockK.size, 48) := by kernel_rfl
set_option linter.unusedSimpArgs false in
set_option maxRecDepth 100000 in
set_option maxHeartbeats 4000000 in
theorem item1_any (bp L lb lvb ppb base at_ : Nat) (ts : List TokP) (c0 c1 c7 v1 v2 v3 v4 v5 : Value) (is : List ItemP) (w : World) (hA : At w bp L ts) (hSt : LvSt w lb base c0 c1 c7 v1 v2 v3 v4 v5 is) (hL : Blk w lvb 193 [.pointer (some ⟨lb, 0, none⟩)]) (hP : Blk w ppb 123 [.pointer (some ⟨bp, 0, none⟩)])
  (hbw : base ≤ w.heap.size) (hlb : lb < base) (hlv : lvb < base) (hpp : ppb < base) (hbp : bp < base) (hbl : bp < lb) (hbv : bp < lvb) (hbq : bp < ppb) (hlen : is.length + 1 ≤ 1000000) (hts : ts.length ≤ 5000) :
  Calls Tryz.prog 139 #[.int .i64 (at_ : Nat), .pointer (some ⟨lvb, 0, none⟩), .pointer (some ⟨ppb, 0, none⟩)] w fun e w' =>
   (∃ it r, itemRest 1 at_ ts = .ok it r ∧ e = .returned (.tuple #[]) ∧ (∃ v', LvSt w' lb base c0 c1 c7 v' v2 v3 v4 v5 (is ++ [it])) ∧ At w' bp L r ∧ Kp (fun k => k = bp ∨ k = lb ∨ base ≤ k) w w') ∨ ∃ r, itemRest 1 at_ ts = .bad r ∧ e = failP r L ∧ Kp (fun k => k = bp ∨ k = lb ∨ base ≤ k) w w' := by
 have HA := hid hA; have HST := hid hSt; have HL := hid hL; have HP := hid hP
 clear hA hSt hL hP
 go_enter Tryz.func139, Tryz.ntmps139
 refine wp_region_any (by kernel_rfl) ?_
 have hS0 : Blk w.drew lb 50 [c0, c1, v1, v2, v3, v4, v5, c7] ∧ Blk w.drew lvb 193 [.pointer (some ⟨lb, 0, none⟩)] ∧ Blk w.drew ppb 123 [.pointer (some ⟨bp, 0, none⟩)] := ⟨HST.out.blk, HL.out, HP.out⟩
 have hA0 : At w.drew bp L ts := HA.out.kept (E := fun _ => False) (Kp.refl _ _).drew (fun _ h => h.elim)
 have hK0 : Kp (fun k => k = bp ∨ k = lb ∨ base ≤ k) w w.drew := (Kp.refl _ _).drew
 have hB0 : LvSt w.drew lb base c0 c1 c7 v1 v2 v3 v4 v5 is := HST.out.kept (E := fun _ => False) (Kp.refl _ _).drew (fun _ h => h.elim)
 have hz0 : base ≤ w.drew.heap.size := hbw
 refine any_of_held (S := fun W => Blk W lb 50 [c0, c1, v1, v2, v3, v4, v5, c7] ∧ Blk W lvb 193 [.pointer (some ⟨lb, 0, none⟩)] ∧ Blk W ppb 123 [.pointer (some ⟨bp, 0, none⟩)]) (N := [12]) _ _ _ _ ?_
 change held _ _ _ _ _ _ _ _ _ w.drew
 obtain ⟨wa, hwa⟩ : ∃ wa, w.drew = wa := ⟨_, rfl⟩
 rw [hwa] at hS0 hA0 hK0 hB0 hz0 ⊢
 have HK0 := hid hK0; have HA0 := hid hA0; have HB0 := hid hB0
 clear hK0 hA0 hB0 hwa HA HST HL HP
 refine held_take [10, 11, 12] (i := 0) (v := .pointer (some ⟨lb, 0, none⟩)) rfl (by kernel_rfl) (fun _ _ _ h => h) (Or.inl ⟨by rfl, fun w' hS => by have hc := hS.2.1.cell (i := 0) rfl; go_simp⟩) hS0 ?_
 try simp only [Act.put, aA, aB, aC]
 refine held_take [2, 3, 4, 9, 12] (i := 1) (v := .pointer (some ⟨lb, 0, none⟩)) rfl (by kernel_rfl) (fun _ _ _ h => h) (Or.inl ⟨by rfl, fun w' hS => by have hc := hS.2.1.cell (i := 0) rfl; go_simp⟩) hS0 ?_
 try simp only [Act.put, aA, aB, aC]
 refine held_take [3, 4, 9, 12] (i := 2) (v := .pointer (some ⟨lb, 0, none⟩)) rfl (by kernel_rfl) (fun _ _ _ h => h) (Or.inl ⟨by rfl, fun w' hS => by go_simp⟩) hS0 ?_
 try simp only [Act.put, aA, aB, aC]
 refine held_take [4, 9, 12] (i := 3) (v := .pointer (some ⟨lb, 2, none⟩)) rfl (by kernel_rfl) (fun _ _ _ h => h) (Or.inl ⟨by rfl, fun w' hS => by go_simp⟩) hS0 ?_
 try simp only [Act.put, aA, aB, aC]
 refine held_take [9, 12] (i := 4) (v := v1) rfl (by kernel_rfl) (fun _ _ _ h => h) (Or.inl ⟨by rfl, fun w' hS => by have hc := hS.1.cell (i := 2) rfl; go_simp⟩) hS0 ?_
 try simp only [Act.put, aA, aB, aC]
 refine held_take [7, 8, 9, 12] (i := 5) (v := .pointer (some ⟨bp, 0, none⟩)) rfl (by kernel_rfl) (fun _ _ _ h => h) (Or.inl ⟨by rfl, fun w' hS => by have hc := hS.2.2.cell (i := 0) rfl; go_simp⟩) hS0 ?_
 try simp only [Act.put, aA, aB, aC]
 refine held_take [7, 8, 9, 12] (i := 6) (v := .int .i64 (at_ : Nat)) rfl (by kernel_rfl) (fun _ _ _ h => h) (Or.inl ⟨by rfl, fun w' hS => by go_simp⟩) hS0 ?_
 try simp only [Act.put, aA, aB, aC]
 refine held_one (i := 7) rfl (by kernel_rfl) (fun K hK => ?_)
 go_simp
 refine (block_any bp L at_ ts wa hts HA0.out).mono ?_
 rintro e W1 (⟨m, r, h1, ⟨c, rfl, hc⟩, a1, k1⟩ | ⟨r, h1, rfl, k1⟩)
 rotate_left
 ·unfold failP
  refine ⟨rfl, Or.inr ⟨r, ?_, rfl, HK0.out.call k1 (fun k hk => Or.inl (Or.inl hk))⟩⟩
  show andThen _ _ ts = _ 
  exact then_bad h1
 have hS1 : Blk W1 lb 50 [c0, c1, v1, v2, v3, v4, v5, c7] ∧ Blk W1 lvb 193 [.pointer (some ⟨lb, 0, none⟩)] ∧ Blk W1 ppb 123 [.pointer (some ⟨bp, 0, none⟩)] :=
  ⟨hS0.1.kept k1 (fun h => by have : lb = bp := h; omega), hS0.2.1.kept k1 (fun h => by have : lvb = bp := h; omega), hS0.2.2.kept k1 (fun h => by have : ppb = bp := h; omega)⟩
 have hz1 : base ≤ W1.heap.size := Nat.le_trans hz0 k1.size
 have hb1 : LvSt W1 lb base c0 c1 c7 v1 v2 v3 v4 v5 is := HB0.out.kept k1 (fun k hk => by have : k = bp := hk; omega)
 have hsz1 := k1.size
 have hold := HB0.out.lt
 have K1 := hid (HK0.out.call k1 (fun k hk => Or.inl (Or.inl hk))); have A1 := hid a1; have H1 := hid h1; have HB1 := hid hb1; have HOW := hid hold
 clear a1 k1 h1 hb1 hold HB0 HK0 HA0
 obtain ⟨v0, rfl, hl0⟩ := hc
 obtain ⟨sa, sn, sc, rfl⟩ := hl0.slice
 unfold blockCl
 have hc : blockK.is W1 (fun k => wa.heap.size ≤ k) (blockCl m (.slice sa sn sc)) m := ⟨_, rfl, hl0⟩
 clear hl0
 refine hK.out _ _ (fun _ => hS1) ?_
 clear hK K
 try simp only [Act.put, aA, aB, aC]
 refine held_one (i := 8) rfl (by kernel_rfl) (fun K hK => ?_)
 go_simp
 refine hK.out _ _ (fun _ => ⟨hS1.1.alloc _, hS1.2.1.alloc _, hS1.2.2.alloc _⟩) ?_
 clear hK K
 try simp only [Act.put, aA, aB, aC]
 refine held_one (i := 9) rfl (by kernel_rfl) (fun K hK => ?_)
 rw [if_pos (by kernel_rfl)]
 obtain ⟨i0, hi, hz0', hz1', hz2⟩ := info_parts item1_info
 obtain ⟨css, hcon, hall⟩ := HB1.out.b1
 have hlc : (blocksOf is).length ≤ is.length := List.length_filterMap_le _ _
 refine con_append (t := 45) (T := 44) (m := blockK.size) (B := base) Tryz.underlying45 hi hz0' hz1' hz2 rfl (by decide) (by decide) (.tmp 8) (.tmp 12) rfl v1 css (blockCl m (.slice sa sn sc)) rfl (hcon.of_block (fun k hk => Below.heap_alloc _ _ _ (by have := (HOW.out v1 (by simp) k hk).2; omega))) W1.heap.size rfl (Blk.new W1 44 (blockCl m (.slice sa sn sc))) (blockK.len hc) (blockK.one hc) (by rw [All2.length hall]; omega) (by rw [World.size_alloc]; omega) ?_
 intro v' W2 hcon' hg hat hone
 obtain ⟨g, cap, rfl⟩ : ∃ g cap, v' = .slice (some ⟨g, 0, none⟩) (css ++ [(blockCl m (.slice sa sn sc))]).length cap := by
  rcases hcon'.form with ⟨_, h⟩ | ⟨g, cap, cur, h1, h2, h3, h4, _⟩
  ·simp at h
  ·exact ⟨g, cap, h1⟩
 have hgr : ∀ k, k < W1.heap.size → v1.ownBlock ≠ some k → W2.heap[k]? = W1.heap[k]? := fun k hk hn => (hg.block k (by rw [World.size_alloc]; omega) (fun h => hn h.symm)).trans (Below.heap_alloc _ _ _ hk)
 have hnv : ∀ q, q < base → v1.ownBlock ≠ some q := fun q hq h => by have := (own_lt hcon.own h).1; omega
 have hS2 : Blk W2 lb 50 [c0, c1, v1, v2, v3, v4, v5, c7] ∧ Blk W2 lvb 193 [.pointer (some ⟨lb, 0, none⟩)] ∧ Blk W2 ppb 123 [.pointer (some ⟨bp, 0, none⟩)] := ⟨(hgr lb (by omega) (hnv lb hlb)).trans hS1.1, (hgr lvb (by omega) (hnv lvb hlv)).trans hS1.2.1, (hgr ppb (by omega) (hnv ppb hpp)).trans hS1.2.2⟩
 have K2 : Kp (fun k => k = bp ∨ k = lb ∨ base ≤ k) w W2 := (K1.out.alloc (.cells ((blockCl m (.slice sa sn sc))).toArray 44)).grown hg (fun k hk => Or.inl (Or.inr (Or.inr (own_lt hcon.own hk).1)))
 have A2 : At W2 bp L r := A1.out.kept (E := fun k => base ≤ k) (((Kp.refl _ W1).alloc (.cells ((blockCl m (.slice sa sn sc))).toArray 44)).grown hg (fun k hk => Or.inl (own_lt hcon.own hk).1)) (fun k hk => by have : base ≤ k := hk; omega)
 have hst := HB1.out.block hlb hall hc (by omega) (fun v hv k hk => (HOW.out v hv k hk).2) hcon' hgr hat (by rw [World.size_alloc]; omega)
 have HK2 := hid K2; have HA2 := hid A2; have HST2 := hid hst; have HP2 := hid hS2.2.2
 have hc2 := hS2.1.cell (i := 2) rfl
 have hf2 := hS2.1.free 2
 clear K2 A2 hst hgr hg hat hcon hall hc hS0 hS1 hcon' HB1
 generalize (css ++ [(blockCl m (.slice sa sn sc))]).length = n2 at *
 refine hK.out _ _ (fun _ => hS2) ?_
 clear hK K
 try simp only [Act.put, aA, aB, aC]
 refine held_one (i := 10) rfl (by kernel_rfl) (fun K hK => ?_)
 go_simp
 refine hK.out _ _ (fun _ => hS2) ?_
 clear hK K
 try simp only [Act.put, aA, aB, aC]
 refine held_one (i := 11) rfl (by kernel_rfl) (fun K hK => ?_)
 go_simp
 refine hK.out _ _ (fun _ => hS2) ?_
 clear hK K
 try simp only [Act.put, aA, aB, aC]
 refine held_one (i := 12) rfl (by kernel_rfl) (fun K hK => ?_)
 go_simp
 refine hK.out _ _ (fun h => absurd (by decide) h) ?_
 clear hK K hS2 hc2 hf2
 try simp only [Act.put, aA, aB, aC]
 refine held_done (by kernel_rfl) ?_ _
 go_end0
 refine Or.inl ⟨.block m, r, then_of H1.out, rfl, ⟨_, HST2.out⟩, ?_, HK2.out.setOld lb 2 (Or.inr (Or.inl rfl)) _⟩
 exact HA2.out.kept (E := onlyB lb) ((Kp.refl (onlyB lb) W2).setOld lb 2 rfl _) (fun k hk => by have : k = lb := hk; omega)
theorem item2_ent (args : Array Value) (w : World) : (callFunc 141 args).run Tryz.prog w = .ok (.enter 141 args) w := enters_of Tryz.func141 (by kernel_rfl) rfl args w
theorem item2_info : (Tryz.prog.info? 76).map (fun i => (i.zero, i.size, i.bytes)) = some (some (.agg #[.string ⟨#[]⟩, .int .i64 0, .int .i64 0, .int .i64 0, .int .i64 0, .int .i64 0, .int .i64 0]), areaK.size, 64) := by kernel_rfl
set_option linter.unusedSimpArgs false in
set_option maxRecDepth 100000 in
set_option maxHeartbeats 4000000 in
theorem item2_any (bp L lb lvb ppb base at_ : Nat) (ts : List TokP) (c0 c1 c7 v1 v2 v3 v4 v5 : Value) (is : List ItemP) (w : World) (hA : At w bp L ts) (hSt : LvSt w lb base c0 c1 c7 v1 v2 v3 v4 v5 is) (hL : Blk w lvb 193 [.pointer (some ⟨lb, 0, none⟩)]) (hP : Blk w ppb 123 [.pointer (some ⟨bp, 0, none⟩)])
  (hbw : base ≤ w.heap.size) (hlb : lb < base) (hlv : lvb < base) (hpp : ppb < base) (hbp : bp < base) (hbl : bp < lb) (hbv : bp < lvb) (hbq : bp < ppb) (hlen : is.length + 1 ≤ 1000000) :
  Calls Tryz.prog 141 #[.int .i64 (at_ : Nat), .pointer (some ⟨lvb, 0, none⟩), .pointer (some ⟨ppb, 0, none⟩)] w fun e w' =>
   (∃ it r, itemRest 2 at_ ts = .ok it r ∧ e = .returned (.tuple #[]) ∧ (∃ v', LvSt w' lb base c0 c1 c7 v1 v' v3 v4 v5 (is ++ [it])) ∧ At w' bp L r ∧ Kp (fun k => k = bp ∨ k = lb ∨ base ≤ k) w w') ∨ ∃ r, itemRest 2 at_ ts = .bad r ∧ e = failP r L ∧ Kp (fun k => k = bp ∨ k = lb ∨ base ≤ k) w w' := by
 have HA := hid hA; have HST := hid hSt; have HL := hid hL; have HP := hid hP
 clear hA hSt hL hP
 go_enter Tryz.func141, Tryz.ntmps141
 refine wp_region_any (by kernel_rfl) ?_
 have hS0 : Blk w.drew lb 50 [c0, c1, v1, v2, v3, v4, v5, c7] ∧ Blk w.drew lvb 193 [.pointer (some ⟨lb, 0, none⟩)] ∧ Blk w.drew ppb 123 [.pointer (some ⟨bp, 0, none⟩)] := ⟨HST.out.blk, HL.out, HP.out⟩
 have hA0 : At w.drew bp L ts := HA.out.kept (E := fun _ => False) (Kp.refl _ _).drew (fun _ h => h.elim)
 have hK0 : Kp (fun k => k = bp ∨ k = lb ∨ base ≤ k) w w.drew := (Kp.refl _ _).drew
 have hB0 : LvSt w.drew lb base c0 c1 c7 v1 v2 v3 v4 v5 is := HST.out.kept (E := fun _ => False) (Kp.refl _ _).drew (fun _ h => h.elim)
 have hz0 : base ≤ w.drew.heap.size := hbw
 refine any_of_held (S := fun W => Blk W lb 50 [c0, c1, v1, v2, v3, v4, v5, c7] ∧ Blk W lvb 193 [.pointer (some ⟨lb, 0, none⟩)] ∧ Blk W ppb 123 [.pointer (some ⟨bp, 0, none⟩)]) (N := [12]) _ _ _ _ ?_
 change held _ _ _ _ _ _ _ _ _ w.drew
 obtain ⟨wa, hwa⟩ : ∃ wa, w.drew = wa := ⟨_, rfl⟩
 rw [hwa] at hS0 hA0 hK0 hB0 hz0 ⊢
 have HK0 := hid hK0; have HA0 := hid hA0; have HB0 := hid hB0
 clear hK0 hA0 hB0 hwa HA HST HL HP
 refine held_take [10, 11, 12] (i := 0) (v := .pointer (some ⟨lb, 0, none⟩)) rfl (by kernel_rfl) (fun _ _ _ h => h) (Or.inl ⟨by rfl, fun w' hS => by have hc := hS.2.1.cell (i := 0) rfl; go_simp⟩) hS0 ?_
 try simp only [Act.put, aA, aB, aC]
 refine held_take [2, 3, 4, 9, 12] (i := 1) (v := .pointer (some ⟨lb, 0, none⟩)) rfl (by kernel_rfl) (fun _ _ _ h => h) (Or.inl ⟨by rfl, fun w' hS => by have hc := hS.2.1.cell (i := 0) rfl; go_simp⟩) hS0 ?_
 try simp only [Act.put, aA, aB, aC]
 refine held_take [3, 4, 9, 12] (i := 2) (v := .pointer (some ⟨lb, 0, none⟩)) rfl (by kernel_rfl) (fun _ _ _ h => h) (Or.inl ⟨by rfl, fun w' hS => by go_simp⟩) hS0 ?_
 try simp only [Act.put, aA, aB, aC]
 refine held_take [4, 9, 12] (i := 3) (v := .pointer (some ⟨lb, 3, none⟩)) rfl (by kernel_rfl) (fun _ _ _ h => h) (Or.inl ⟨by rfl, fun w' hS => by go_simp⟩) hS0 ?_
 try simp only [Act.put, aA, aB, aC]
 refine held_take [9, 12] (i := 4) (v := v2) rfl (by kernel_rfl) (fun _ _ _ h => h) (Or.inl ⟨by rfl, fun w' hS => by have hc := hS.1.cell (i := 3) rfl; go_simp⟩) hS0 ?_
 try simp only [Act.put, aA, aB, aC]
 refine held_take [7, 8, 9, 12] (i := 5) (v := .pointer (some ⟨bp, 0, none⟩)) rfl (by kernel_rfl) (fun _ _ _ h => h) (Or.inl ⟨by rfl, fun w' hS => by have hc := hS.2.2.cell (i := 0) rfl; go_simp⟩) hS0 ?_
 try simp only [Act.put, aA, aB, aC]
 refine held_take [7, 8, 9, 12] (i := 6) (v := .int .i64 (at_ : Nat)) rfl (by kernel_rfl) (fun _ _ _ h => h) (Or.inl ⟨by rfl, fun w' hS => by go_simp⟩) hS0 ?_
 try simp only [Act.put, aA, aB, aC]
 refine held_one (i := 7) rfl (by kernel_rfl) (fun K hK => ?_)
 go_simp
 refine (area_any bp L at_ ts wa HA0.out).mono ?_
 rintro e W1 (⟨m, r, h1, ⟨c, rfl, hc⟩, a1, k1⟩ | ⟨r, h1, rfl, k1⟩)
 rotate_left
 ·unfold failP
  refine ⟨rfl, Or.inr ⟨r, ?_, rfl, HK0.out.call k1 (fun k hk => Or.inl (Or.inl hk))⟩⟩
  show andThen _ _ ts = _ 
  exact then_bad h1
 have hS1 : Blk W1 lb 50 [c0, c1, v1, v2, v3, v4, v5, c7] ∧ Blk W1 lvb 193 [.pointer (some ⟨lb, 0, none⟩)] ∧ Blk W1 ppb 123 [.pointer (some ⟨bp, 0, none⟩)] :=
  ⟨hS0.1.kept k1 (fun h => by have : lb = bp := h; omega), hS0.2.1.kept k1 (fun h => by have : lvb = bp := h; omega), hS0.2.2.kept k1 (fun h => by have : ppb = bp := h; omega)⟩
 have hz1 : base ≤ W1.heap.size := Nat.le_trans hz0 k1.size
 have hb1 : LvSt W1 lb base c0 c1 c7 v1 v2 v3 v4 v5 is := HB0.out.kept k1 (fun k hk => by have : k = bp := hk; omega)
 have hsz1 := k1.size
 have hold := HB0.out.lt
 have K1 := hid (HK0.out.call k1 (fun k hk => Or.inl (Or.inl hk))); have A1 := hid a1; have H1 := hid h1; have HB1 := hid hb1; have HOW := hid hold
 clear a1 k1 h1 hb1 hold HB0 HK0 HA0
 obtain rfl : c = areaC m := hc
 unfold areaC
 have hc : areaK.is W1 (fun k => wa.heap.size ≤ k) (areaC m) m := rfl
 refine hK.out _ _ (fun _ => hS1) ?_
 clear hK K
 try simp only [Act.put, aA, aB, aC]
 refine held_one (i := 8) rfl (by kernel_rfl) (fun K hK => ?_)
 go_simp
 refine hK.out _ _ (fun _ => ⟨hS1.1.alloc _, hS1.2.1.alloc _, hS1.2.2.alloc _⟩) ?_
 clear hK K
 try simp only [Act.put, aA, aB, aC]
 refine held_one (i := 9) rfl (by kernel_rfl) (fun K hK => ?_)
 rw [if_pos (by kernel_rfl)]
 obtain ⟨i0, hi, hz0', hz1', hz2⟩ := info_parts item2_info
 obtain ⟨css, hcon, hall⟩ := HB1.out.b2
 have hlc : (areasOf is).length ≤ is.length := List.length_filterMap_le _ _
 refine con_append (t := 46) (T := 76) (m := areaK.size) (B := base) Tryz.underlying46 hi hz0' hz1' hz2 rfl (by decide) (by decide) (.tmp 8) (.tmp 12) rfl v2 css (areaC m) rfl (hcon.of_block (fun k hk => Below.heap_alloc _ _ _ (by have := (HOW.out v2 (by simp) k hk).2; omega))) W1.heap.size rfl (Blk.new W1 76 (areaC m)) (areaK.len hc) (areaK.one hc) (by rw [All2.length hall]; omega) (by rw [World.size_alloc]; omega) ?_
 intro v' W2 hcon' hg hat hone
 obtain ⟨g, cap, rfl⟩ : ∃ g cap, v' = .slice (some ⟨g, 0, none⟩) (css ++ [(areaC m)]).length cap := by
  rcases hcon'.form with ⟨_, h⟩ | ⟨g, cap, cur, h1, h2, h3, h4, _⟩
  ·simp at h
  ·exact ⟨g, cap, h1⟩
 have hgr : ∀ k, k < W1.heap.size → v2.ownBlock ≠ some k → W2.heap[k]? = W1.heap[k]? := fun k hk hn => (hg.block k (by rw [World.size_alloc]; omega) (fun h => hn h.symm)).trans (Below.heap_alloc _ _ _ hk)
 have hnv : ∀ q, q < base → v2.ownBlock ≠ some q := fun q hq h => by have := (own_lt hcon.own h).1; omega
 have hS2 : Blk W2 lb 50 [c0, c1, v1, v2, v3, v4, v5, c7] ∧ Blk W2 lvb 193 [.pointer (some ⟨lb, 0, none⟩)] ∧ Blk W2 ppb 123 [.pointer (some ⟨bp, 0, none⟩)] := ⟨(hgr lb (by omega) (hnv lb hlb)).trans hS1.1, (hgr lvb (by omega) (hnv lvb hlv)).trans hS1.2.1, (hgr ppb (by omega) (hnv ppb hpp)).trans hS1.2.2⟩
 have K2 : Kp (fun k => k = bp ∨ k = lb ∨ base ≤ k) w W2 := (K1.out.alloc (.cells ((areaC m)).toArray 76)).grown hg (fun k hk => Or.inl (Or.inr (Or.inr (own_lt hcon.own hk).1)))
 have A2 : At W2 bp L r := A1.out.kept (E := fun k => base ≤ k) (((Kp.refl _ W1).alloc (.cells ((areaC m)).toArray 76)).grown hg (fun k hk => Or.inl (own_lt hcon.own hk).1)) (fun k hk => by have : base ≤ k := hk; omega)
 have hst := HB1.out.area hlb hall hc (by omega) (fun v hv k hk => (HOW.out v hv k hk).2) hcon' hgr hat (by rw [World.size_alloc]; omega)
 have HK2 := hid K2; have HA2 := hid A2; have HST2 := hid hst; have HP2 := hid hS2.2.2
 have hc2 := hS2.1.cell (i := 3) rfl
 have hf2 := hS2.1.free 3
 clear K2 A2 hst hgr hg hat hcon hall hc hS0 hS1 hcon' HB1
 generalize (css ++ [(areaC m)]).length = n2 at *
 refine hK.out _ _ (fun _ => hS2) ?_
 clear hK K
 try simp only [Act.put, aA, aB, aC]
 refine held_one (i := 10) rfl (by kernel_rfl) (fun K hK => ?_)
 go_simp
 refine hK.out _ _ (fun _ => hS2) ?_
 clear hK K
 try simp only [Act.put, aA, aB, aC]
 refine held_one (i := 11) rfl (by kernel_rfl) (fun K hK => ?_)
 go_simp
 refine hK.out _ _ (fun _ => hS2) ?_
 clear hK K
 try simp only [Act.put, aA, aB, aC]
 refine held_one (i := 12) rfl (by kernel_rfl) (fun K hK => ?_)
 go_simp
 refine hK.out _ _ (fun h => absurd (by decide) h) ?_
 clear hK K hS2 hc2 hf2
 try simp only [Act.put, aA, aB, aC]
 refine held_done (by kernel_rfl) ?_ _
 go_end0
 refine Or.inl ⟨.area m, r, then_of H1.out, rfl, ⟨_, HST2.out⟩, ?_, HK2.out.setOld lb 3 (Or.inr (Or.inl rfl)) _⟩
 exact HA2.out.kept (E := onlyB lb) ((Kp.refl (onlyB lb) W2).setOld lb 3 rfl _) (fun k hk => by have : k = lb := hk; omega)
end Go.Proofs.YtilfpnkcgjonhaaGreatDoor.Pl
namespace Go.Proofs.YtilfpnkcgjonhaaGreatDoor.Pl
open Go.RowKit Go.Sort Go.Shelf Foyer.Plan Foyer.Round
theorem item3_ent (args : Array Value) (w : World) : (callFunc 143 args).run Tryz.prog w = .ok (.enter 143 args) w := enters_of Tryz.func143 (by kernel_rfl) rfl args w
theorem item3_info : (Tryz.prog.info? 74).map (fun i => (i.zero, i.size, i.bytes)) = some (some (.agg #[.int .i64 0, .int .i64 0, .int .i64 0, .int .i64 0]), boxK.size, 32) := by kernel_rfl
set_option linter.unusedSimpArgs false in
set_option maxRecDepth 100000 in
set_option maxHeartbeats 4000000 in
theorem item3_any (bp L lb lvb ppb base at_ : Nat) (ts : List TokP) (c0 c1 c7 v1 v2 v3 v4 v5 : Value) (is : List ItemP) (w : World) (hA : At w bp L ts) (hSt : LvSt w lb base c0 c1 c7 v1 v2 v3 v4 v5 is) (hL : Blk w lvb 193 [.pointer (some ⟨lb, 0, none⟩)]) (hP : Blk w ppb 123 [.pointer (some ⟨bp, 0, none⟩)])
  (hbw : base ≤ w.heap.size) (hlb : lb < base) (hlv : lvb < base) (hpp : ppb < base) (hbp : bp < base) (hbl : bp < lb) (hbv : bp < lvb) (hbq : bp < ppb) (hpq : lb ≠ ppb) (hlen : is.length + 1 ≤ 1000000) :
  Calls Tryz.prog 143 #[.int .i64 (at_ : Nat), .pointer (some ⟨lvb, 0, none⟩), .pointer (some ⟨ppb, 0, none⟩)] w fun e w' =>
   (∃ it r, itemRest 3 at_ ts = .ok it r ∧ e = .returned (.tuple #[]) ∧ (∃ v', LvSt w' lb base c0 c1 c7 v1 v2 v' v4 v5 (is ++ [it])) ∧ At w' bp L r ∧ Kp (fun k => k = bp ∨ k = lb ∨ base ≤ k) w w') ∨ ∃ r, itemRest 3 at_ ts = .bad r ∧ e = failP r L ∧ Kp (fun k => k = bp ∨ k = lb ∨ base ≤ k) w w' := by
 have HA := hid hA; have HST := hid hSt; have HL := hid hL; have HP := hid hP
 clear hA hSt hL hP
 go_enter Tryz.func143, Tryz.ntmps143
 refine wp_seq (wp_region_any (by kernel_rfl) ?_)
 have hS0 : Blk w.drew lb 50 [c0, c1, v1, v2, v3, v4, v5, c7] ∧ Blk w.drew lvb 193 [.pointer (some ⟨lb, 0, none⟩)] ∧ Blk w.drew ppb 123 [.pointer (some ⟨bp, 0, none⟩)] := ⟨HST.out.blk, HL.out, HP.out⟩
 have hA0 : At w.drew bp L ts := HA.out.kept (E := fun _ => False) (Kp.refl _ _).drew (fun _ h => h.elim)
 have hK0 : Kp (fun k => k = bp ∨ k = lb ∨ base ≤ k) w w.drew := (Kp.refl _ _).drew
 have hB0 : LvSt w.drew lb base c0 c1 c7 v1 v2 v3 v4 v5 is := HST.out.kept (E := fun _ => False) (Kp.refl _ _).drew (fun _ h => h.elim)
 have hz0 : base ≤ w.drew.heap.size := hbw
 refine any_of_held (S := fun W => Blk W lb 50 [c0, c1, v1, v2, v3, v4, v5, c7] ∧ Blk W lvb 193 [.pointer (some ⟨lb, 0, none⟩)] ∧ Blk W ppb 123 [.pointer (some ⟨bp, 0, none⟩)]) (N := [11]) _ _ _ _ ?_
 change held _ _ _ _ _ _ _ _ _ w.drew
 obtain ⟨wa, hwa⟩ : ∃ wa, w.drew = wa := ⟨_, rfl⟩
 rw [hwa] at hS0 hA0 hK0 hB0 hz0 ⊢
 have HK0 := hid hK0; have HA0 := hid hA0; have HB0 := hid hB0
 clear hK0 hA0 hB0 hwa HA HST HL HP
 refine held_take [9, 10, 11] (i := 0) (v := .pointer (some ⟨lb, 0, none⟩)) rfl (by kernel_rfl) (fun _ _ _ h => h) (Or.inl ⟨by rfl, fun w' hS => by have hc := hS.2.1.cell (i := 0) rfl; go_simp⟩) hS0 ?_
 try simp only [Act.put, aA, aB, aC]
 refine held_take [2, 3, 4, 8, 11] (i := 1) (v := .pointer (some ⟨lb, 0, none⟩)) rfl (by kernel_rfl) (fun _ _ _ h => h) (Or.inl ⟨by rfl, fun w' hS => by have hc := hS.2.1.cell (i := 0) rfl; go_simp⟩) hS0 ?_
 try simp only [Act.put, aA, aB, aC]
 refine held_take [3, 4, 8, 11] (i := 2) (v := .pointer (some ⟨lb, 0, none⟩)) rfl (by kernel_rfl) (fun _ _ _ h => h) (Or.inl ⟨by rfl, fun w' hS => by go_simp⟩) hS0 ?_
 try simp only [Act.put, aA, aB, aC]
 refine held_take [4, 8, 11] (i := 3) (v := .pointer (some ⟨lb, 4, none⟩)) rfl (by kernel_rfl) (fun _ _ _ h => h) (Or.inl ⟨by rfl, fun w' hS => by go_simp⟩) hS0 ?_
 try simp only [Act.put, aA, aB, aC]
 refine held_take [8, 11] (i := 4) (v := v3) rfl (by kernel_rfl) (fun _ _ _ h => h) (Or.inl ⟨by rfl, fun w' hS => by have hc := hS.1.cell (i := 4) rfl; go_simp⟩) hS0 ?_
 try simp only [Act.put, aA, aB, aC]
 refine held_take [6, 7, 8, 11] (i := 5) (v := .pointer (some ⟨bp, 0, none⟩)) rfl (by kernel_rfl) (fun _ _ _ h => h) (Or.inl ⟨by rfl, fun w' hS => by have hc := hS.2.2.cell (i := 0) rfl; go_simp⟩) hS0 ?_
 try simp only [Act.put, aA, aB, aC]
 refine held_one (i := 6) rfl (by kernel_rfl) (fun K hK => ?_)
 go_simp
 refine (box_any bp L ts wa HA0.out).mono ?_
 rintro e W1 (⟨m, r, h1, rfl, a1, k1⟩ | ⟨r, h1, rfl, k1⟩)
 rotate_left
 ·unfold failP
  refine ⟨rfl, Or.inr ⟨r, ?_, rfl, HK0.out.call k1 (fun k hk => Or.inl (Or.inl hk))⟩⟩
  show andThen _ _ ts = _ 
  exact then_bad h1
 have hS1 : Blk W1 lb 50 [c0, c1, v1, v2, v3, v4, v5, c7] ∧ Blk W1 lvb 193 [.pointer (some ⟨lb, 0, none⟩)] ∧ Blk W1 ppb 123 [.pointer (some ⟨bp, 0, none⟩)] :=
  ⟨hS0.1.kept k1 (fun h => by have : lb = bp := h; omega), hS0.2.1.kept k1 (fun h => by have : lvb = bp := h; omega), hS0.2.2.kept k1 (fun h => by have : ppb = bp := h; omega)⟩
 have hz1 : base ≤ W1.heap.size := Nat.le_trans hz0 k1.size
 have hb1 : LvSt W1 lb base c0 c1 c7 v1 v2 v3 v4 v5 is := HB0.out.kept k1 (fun k hk => by have : k = bp := hk; omega)
 have hsz1 := k1.size
 have hold := HB0.out.lt
 have K1 := hid (HK0.out.call k1 (fun k hk => Or.inl (Or.inl hk))); have A1 := hid a1; have H1 := hid h1; have HB1 := hid hb1; have HOW := hid hold
 clear a1 k1 h1 hb1 hold HB0 HK0 HA0
 unfold boxC
 have hc : boxK.is W1 (fun k => wa.heap.size ≤ k) (boxC m) m := rfl
 refine hK.out _ _ (fun _ => hS1) ?_
 clear hK K
 try simp only [Act.put, aA, aB, aC]
 refine held_one (i := 7) rfl (by kernel_rfl) (fun K hK => ?_)
 go_simp
 refine hK.out _ _ (fun _ => ⟨hS1.1.alloc _, hS1.2.1.alloc _, hS1.2.2.alloc _⟩) ?_
 clear hK K
 try simp only [Act.put, aA, aB, aC]
 refine held_one (i := 8) rfl (by kernel_rfl) (fun K hK => ?_)
 rw [if_pos (by kernel_rfl)]
 obtain ⟨i0, hi, hz0', hz1', hz2⟩ := info_parts item3_info
 obtain ⟨css, hcon, hall⟩ := HB1.out.b3
 have hlc : (aislesOf is).length ≤ is.length := List.length_filterMap_le _ _
 refine con_append (t := 47) (T := 74) (m := boxK.size) (B := base) Tryz.underlying47 hi hz0' hz1' hz2 rfl (by decide) (by decide) (.tmp 8) (.tmp 11) rfl v3 css (boxC m) rfl (hcon.of_block (fun k hk => Below.heap_alloc _ _ _ (by have := (HOW.out v3 (by simp) k hk).2; omega))) W1.heap.size rfl (Blk.new W1 74 (boxC m)) (boxK.len hc) (boxK.one hc) (by rw [All2.length hall]; omega) (by rw [World.size_alloc]; omega) ?_
 intro v' W2 hcon' hg hat hone
 obtain ⟨g, cap, rfl⟩ : ∃ g cap, v' = .slice (some ⟨g, 0, none⟩) (css ++ [(boxC m)]).length cap := by
  rcases hcon'.form with ⟨_, h⟩ | ⟨g, cap, cur, h1, h2, h3, h4, _⟩
  ·simp at h
  ·exact ⟨g, cap, h1⟩
 have hgr : ∀ k, k < W1.heap.size → v3.ownBlock ≠ some k → W2.heap[k]? = W1.heap[k]? := fun k hk hn => (hg.block k (by rw [World.size_alloc]; omega) (fun h => hn h.symm)).trans (Below.heap_alloc _ _ _ hk)
 have hnv : ∀ q, q < base → v3.ownBlock ≠ some q := fun q hq h => by have := (own_lt hcon.own h).1; omega
 have hS2 : Blk W2 lb 50 [c0, c1, v1, v2, v3, v4, v5, c7] ∧ Blk W2 lvb 193 [.pointer (some ⟨lb, 0, none⟩)] ∧ Blk W2 ppb 123 [.pointer (some ⟨bp, 0, none⟩)] := ⟨(hgr lb (by omega) (hnv lb hlb)).trans hS1.1, (hgr lvb (by omega) (hnv lvb hlv)).trans hS1.2.1, (hgr ppb (by omega) (hnv ppb hpp)).trans hS1.2.2⟩
 have K2 : Kp (fun k => k = bp ∨ k = lb ∨ base ≤ k) w W2 := (K1.out.alloc (.cells ((boxC m)).toArray 74)).grown hg (fun k hk => Or.inl (Or.inr (Or.inr (own_lt hcon.own hk).1)))
 have A2 : At W2 bp L r := A1.out.kept (E := fun k => base ≤ k) (((Kp.refl _ W1).alloc (.cells ((boxC m)).toArray 74)).grown hg (fun k hk => Or.inl (own_lt hcon.own hk).1)) (fun k hk => by have : base ≤ k := hk; omega)
 have hst := HB1.out.aisle hlb hall hc (by omega) (fun v hv k hk => (HOW.out v hv k hk).2) hcon' hgr hat (by rw [World.size_alloc]; omega)
 have HK2 := hid K2; have HA2 := hid A2; have HST2 := hid hst; have HP2 := hid hS2.2.2
 have hc2 := hS2.1.cell (i := 4) rfl
 have hf2 := hS2.1.free 4
 clear K2 A2 hst hgr hg hat hcon hall hc hS0 hS1 hcon' HB1
 generalize (css ++ [(boxC m)]).length = n2 at *
 refine hK.out _ _ (fun _ => hS2) ?_
 clear hK K
 try simp only [Act.put, aA, aB, aC]
 refine held_one (i := 9) rfl (by kernel_rfl) (fun K hK => ?_)
 go_simp
 refine hK.out _ _ (fun _ => hS2) ?_
 clear hK K
 try simp only [Act.put, aA, aB, aC]
 refine held_one (i := 10) rfl (by kernel_rfl) (fun K hK => ?_)
 go_simp
 refine hK.out _ _ (fun _ => hS2) ?_
 clear hK K
 try simp only [Act.put, aA, aB, aC]
 refine held_one (i := 11) rfl (by kernel_rfl) (fun K hK => ?_)
 go_simp
 refine hK.out _ _ (fun h => absurd (by decide) h) ?_
 clear hK K hS2 hc2 hf2
 try simp only [Act.put, aA, aB, aC]
 refine held_done (by kernel_rfl) ?_ _
 have A3 := HA2.out.kept (E := onlyB lb) ((Kp.refl (onlyB lb) W2).setOld lb 4 rfl (.slice (some ⟨g, 0, none⟩) n2 cap)) (fun k hk => by have : k = lb := hk; omega)
 have K3 := HK2.out.setOld lb 4 (Or.inr (Or.inl rfl)) (.slice (some ⟨g, 0, none⟩) n2 cap)
 have P3 := HP2.out.other (p := ⟨lb, 4, none⟩) (by show ¬ lb = ppb; omega) (.slice (some ⟨g, 0, none⟩) n2 cap)
 have HST3 := HST2
 clear HST2
 generalize W2.setCell ⟨lb, 4, none⟩ (.slice (some ⟨g, 0, none⟩) n2 cap) = W3 at *
 have hc3 := P3.cell (i := 0) rfl
 have HA3 := hid A3; have HK3 := hid K3
 clear A3 K3 P3 HA2 HK2 HP2 K1 A1
 show Code.wp _ _ _ _ _
 go_wp2_with fail
 refine (word_any bp L r wSemi _ HA3.out).mono ?_
 rintro e W4 (⟨x, q, h4, rfl, a4, k4⟩ | ⟨q, h4, rfl, k4⟩)
 ·have A4 := hid a4; have H4 := hid h4; have K4 := hid (HK3.out.call k4 (fun k hk => Or.inl (Or.inl hk))); have ST4 := hid (HST3.out.kept k4 (fun k hk => by have : k = bp := hk; omega))
  clear a4 h4 k4
  go_wp2
  go_end0
  refine Or.inl ⟨.aisle m, q, ?_, rfl, ⟨_, ST4.out⟩, A4.out, K4.out⟩
  show andThen _ _ ts = _
  rw [then_of H1.out, then_of H4.out]; rfl
 ·have H4 := hid h4; have K4 := hid (HK3.out.call k4 (fun k hk => Or.inl (Or.inl hk)))
  clear h4 k4
  unfold failP
  go_wp2
  refine ⟨rfl, Or.inr ⟨q, ?_, rfl, K4.out⟩⟩
  show andThen _ _ ts = _
  rw [then_of H1.out, then_bad H4.out]
theorem item4_ent (args : Array Value) (w : World) : (callFunc 145 args).run Tryz.prog w = .ok (.enter 145 args) w := enters_of Tryz.func145 (by kernel_rfl) rfl args w
theorem item4_info : (Tryz.prog.info? 74).map (fun i => (i.zero, i.size, i.bytes)) = some (some (.agg #[.int .i64 0, .int .i64 0, .int .i64 0, .int .i64 0]), boxK.size, 32) := by kernel_rfl
set_option linter.unusedSimpArgs false in
set_option maxRecDepth 100000 in
set_option maxHeartbeats 4000000 in
theorem item4_any (bp L lb lvb ppb base at_ : Nat) (ts : List TokP) (c0 c1 c7 v1 v2 v3 v4 v5 : Value) (is : List ItemP) (w : World) (hA : At w bp L ts) (hSt : LvSt w lb base c0 c1 c7 v1 v2 v3 v4 v5 is) (hL : Blk w lvb 193 [.pointer (some ⟨lb, 0, none⟩)]) (hP : Blk w ppb 123 [.pointer (some ⟨bp, 0, none⟩)])
  (hbw : base ≤ w.heap.size) (hlb : lb < base) (hlv : lvb < base) (hpp : ppb < base) (hbp : bp < base) (hbl : bp < lb) (hbv : bp < lvb) (hbq : bp < ppb) (hpq : lb ≠ ppb) (hlen : is.length + 1 ≤ 1000000) :
  Calls Tryz.prog 145 #[.int .i64 (at_ : Nat), .pointer (some ⟨lvb, 0, none⟩), .pointer (some ⟨ppb, 0, none⟩)] w fun e w' =>
   (∃ it r, itemRest 4 at_ ts = .ok it r ∧ e = .returned (.tuple #[]) ∧ (∃ v', LvSt w' lb base c0 c1 c7 v1 v2 v3 v' v5 (is ++ [it])) ∧ At w' bp L r ∧ Kp (fun k => k = bp ∨ k = lb ∨ base ≤ k) w w') ∨ ∃ r, itemRest 4 at_ ts = .bad r ∧ e = failP r L ∧ Kp (fun k => k = bp ∨ k = lb ∨ base ≤ k) w w' := by
 have HA := hid hA; have HST := hid hSt; have HL := hid hL; have HP := hid hP
 clear hA hSt hL hP
 go_enter Tryz.func145, Tryz.ntmps145
 refine wp_seq (wp_region_any (by kernel_rfl) ?_)
 have hS0 : Blk w.drew lb 50 [c0, c1, v1, v2, v3, v4, v5, c7] ∧ Blk w.drew lvb 193 [.pointer (some ⟨lb, 0, none⟩)] ∧ Blk w.drew ppb 123 [.pointer (some ⟨bp, 0, none⟩)] := ⟨HST.out.blk, HL.out, HP.out⟩
 have hA0 : At w.drew bp L ts := HA.out.kept (E := fun _ => False) (Kp.refl _ _).drew (fun _ h => h.elim)
 have hK0 : Kp (fun k => k = bp ∨ k = lb ∨ base ≤ k) w w.drew := (Kp.refl _ _).drew
 have hB0 : LvSt w.drew lb base c0 c1 c7 v1 v2 v3 v4 v5 is := HST.out.kept (E := fun _ => False) (Kp.refl _ _).drew (fun _ h => h.elim)
 have hz0 : base ≤ w.drew.heap.size := hbw
 refine any_of_held (S := fun W => Blk W lb 50 [c0, c1, v1, v2, v3, v4, v5, c7] ∧ Blk W lvb 193 [.pointer (some ⟨lb, 0, none⟩)] ∧ Blk W ppb 123 [.pointer (some ⟨bp, 0, none⟩)]) (N := [11]) _ _ _ _ ?_
 change held _ _ _ _ _ _ _ _ _ w.drew
 obtain ⟨wa, hwa⟩ : ∃ wa, w.drew = wa := ⟨_, rfl⟩
 rw [hwa] at hS0 hA0 hK0 hB0 hz0 ⊢
 have HK0 := hid hK0; have HA0 := hid hA0; have HB0 := hid hB0
 clear hK0 hA0 hB0 hwa HA HST HL HP
 refine held_take [9, 10, 11] (i := 0) (v := .pointer (some ⟨lb, 0, none⟩)) rfl (by kernel_rfl) (fun _ _ _ h => h) (Or.inl ⟨by rfl, fun w' hS => by have hc := hS.2.1.cell (i := 0) rfl; go_simp⟩) hS0 ?_
 try simp only [Act.put, aA, aB, aC]
 refine held_take [2, 3, 4, 8, 11] (i := 1) (v := .pointer (some ⟨lb, 0, none⟩)) rfl (by kernel_rfl) (fun _ _ _ h => h) (Or.inl ⟨by rfl, fun w' hS => by have hc := hS.2.1.cell (i := 0) rfl; go_simp⟩) hS0 ?_
 try simp only [Act.put, aA, aB, aC]
 refine held_take [3, 4, 8, 11] (i := 2) (v := .pointer (some ⟨lb, 0, none⟩)) rfl (by kernel_rfl) (fun _ _ _ h => h) (Or.inl ⟨by rfl, fun w' hS => by go_simp⟩) hS0 ?_
 try simp only [Act.put, aA, aB, aC]
 refine held_take [4, 8, 11] (i := 3) (v := .pointer (some ⟨lb, 5, none⟩)) rfl (by kernel_rfl) (fun _ _ _ h => h) (Or.inl ⟨by rfl, fun w' hS => by go_simp⟩) hS0 ?_
 try simp only [Act.put, aA, aB, aC]
 refine held_take [8, 11] (i := 4) (v := v4) rfl (by kernel_rfl) (fun _ _ _ h => h) (Or.inl ⟨by rfl, fun w' hS => by have hc := hS.1.cell (i := 5) rfl; go_simp⟩) hS0 ?_
 try simp only [Act.put, aA, aB, aC]
 refine held_take [6, 7, 8, 11] (i := 5) (v := .pointer (some ⟨bp, 0, none⟩)) rfl (by kernel_rfl) (fun _ _ _ h => h) (Or.inl ⟨by rfl, fun w' hS => by have hc := hS.2.2.cell (i := 0) rfl; go_simp⟩) hS0 ?_
 try simp only [Act.put, aA, aB, aC]
 refine held_one (i := 6) rfl (by kernel_rfl) (fun K hK => ?_)
 go_simp
 refine (box_any bp L ts wa HA0.out).mono ?_
 rintro e W1 (⟨m, r, h1, rfl, a1, k1⟩ | ⟨r, h1, rfl, k1⟩)
 rotate_left
 ·unfold failP
  refine ⟨rfl, Or.inr ⟨r, ?_, rfl, HK0.out.call k1 (fun k hk => Or.inl (Or.inl hk))⟩⟩
  show andThen _ _ ts = _ 
  exact then_bad h1
 have hS1 : Blk W1 lb 50 [c0, c1, v1, v2, v3, v4, v5, c7] ∧ Blk W1 lvb 193 [.pointer (some ⟨lb, 0, none⟩)] ∧ Blk W1 ppb 123 [.pointer (some ⟨bp, 0, none⟩)] :=
  ⟨hS0.1.kept k1 (fun h => by have : lb = bp := h; omega), hS0.2.1.kept k1 (fun h => by have : lvb = bp := h; omega), hS0.2.2.kept k1 (fun h => by have : ppb = bp := h; omega)⟩
 have hz1 : base ≤ W1.heap.size := Nat.le_trans hz0 k1.size
 have hb1 : LvSt W1 lb base c0 c1 c7 v1 v2 v3 v4 v5 is := HB0.out.kept k1 (fun k hk => by have : k = bp := hk; omega)
 have hsz1 := k1.size
 have hold := HB0.out.lt
 have K1 := hid (HK0.out.call k1 (fun k hk => Or.inl (Or.inl hk))); have A1 := hid a1; have H1 := hid h1; have HB1 := hid hb1; have HOW := hid hold
 clear a1 k1 h1 hb1 hold HB0 HK0 HA0
 unfold boxC
 have hc : boxK.is W1 (fun k => wa.heap.size ≤ k) (boxC m) m := rfl
 refine hK.out _ _ (fun _ => hS1) ?_
 clear hK K
 try simp only [Act.put, aA, aB, aC]
 refine held_one (i := 7) rfl (by kernel_rfl) (fun K hK => ?_)
 go_simp
 refine hK.out _ _ (fun _ => ⟨hS1.1.alloc _, hS1.2.1.alloc _, hS1.2.2.alloc _⟩) ?_
 clear hK K
 try simp only [Act.put, aA, aB, aC]
 refine held_one (i := 8) rfl (by kernel_rfl) (fun K hK => ?_)
 rw [if_pos (by kernel_rfl)]
 obtain ⟨i0, hi, hz0', hz1', hz2⟩ := info_parts item4_info
 obtain ⟨css, hcon, hall⟩ := HB1.out.b4
 have hlc : (pillarsOf is).length ≤ is.length := List.length_filterMap_le _ _
 refine con_append (t := 47) (T := 74) (m := boxK.size) (B := base) Tryz.underlying47 hi hz0' hz1' hz2 rfl (by decide) (by decide) (.tmp 8) (.tmp 11) rfl v4 css (boxC m) rfl (hcon.of_block (fun k hk => Below.heap_alloc _ _ _ (by have := (HOW.out v4 (by simp) k hk).2; omega))) W1.heap.size rfl (Blk.new W1 74 (boxC m)) (boxK.len hc) (boxK.one hc) (by rw [All2.length hall]; omega) (by rw [World.size_alloc]; omega) ?_
 intro v' W2 hcon' hg hat hone
 obtain ⟨g, cap, rfl⟩ : ∃ g cap, v' = .slice (some ⟨g, 0, none⟩) (css ++ [(boxC m)]).length cap := by
  rcases hcon'.form with ⟨_, h⟩ | ⟨g, cap, cur, h1, h2, h3, h4, _⟩
  ·simp at h
  ·exact ⟨g, cap, h1⟩
 have hgr : ∀ k, k < W1.heap.size → v4.ownBlock ≠ some k → W2.heap[k]? = W1.heap[k]? := fun k hk hn => (hg.block k (by rw [World.size_alloc]; omega) (fun h => hn h.symm)).trans (Below.heap_alloc _ _ _ hk)
 have hnv : ∀ q, q < base → v4.ownBlock ≠ some q := fun q hq h => by have := (own_lt hcon.own h).1; omega
 have hS2 : Blk W2 lb 50 [c0, c1, v1, v2, v3, v4, v5, c7] ∧ Blk W2 lvb 193 [.pointer (some ⟨lb, 0, none⟩)] ∧ Blk W2 ppb 123 [.pointer (some ⟨bp, 0, none⟩)] := ⟨(hgr lb (by omega) (hnv lb hlb)).trans hS1.1, (hgr lvb (by omega) (hnv lvb hlv)).trans hS1.2.1, (hgr ppb (by omega) (hnv ppb hpp)).trans hS1.2.2⟩
 have K2 : Kp (fun k => k = bp ∨ k = lb ∨ base ≤ k) w W2 := (K1.out.alloc (.cells ((boxC m)).toArray 74)).grown hg (fun k hk => Or.inl (Or.inr (Or.inr (own_lt hcon.own hk).1)))
 have A2 : At W2 bp L r := A1.out.kept (E := fun k => base ≤ k) (((Kp.refl _ W1).alloc (.cells ((boxC m)).toArray 74)).grown hg (fun k hk => Or.inl (own_lt hcon.own hk).1)) (fun k hk => by have : base ≤ k := hk; omega)
 have hst := HB1.out.pillar hlb hall hc (by omega) (fun v hv k hk => (HOW.out v hv k hk).2) hcon' hgr hat (by rw [World.size_alloc]; omega)
 have HK2 := hid K2; have HA2 := hid A2; have HST2 := hid hst; have HP2 := hid hS2.2.2
 have hc2 := hS2.1.cell (i := 5) rfl
 have hf2 := hS2.1.free 5
 clear K2 A2 hst hgr hg hat hcon hall hc hS0 hS1 hcon' HB1
 generalize (css ++ [(boxC m)]).length = n2 at *
 refine hK.out _ _ (fun _ => hS2) ?_
 clear hK K
 try simp only [Act.put, aA, aB, aC]
 refine held_one (i := 9) rfl (by kernel_rfl) (fun K hK => ?_)
 go_simp
 refine hK.out _ _ (fun _ => hS2) ?_
 clear hK K
 try simp only [Act.put, aA, aB, aC]
 refine held_one (i := 10) rfl (by kernel_rfl) (fun K hK => ?_)
 go_simp
 refine hK.out _ _ (fun _ => hS2) ?_
 clear hK K
 try simp only [Act.put, aA, aB, aC]
 refine held_one (i := 11) rfl (by kernel_rfl) (fun K hK => ?_)
 go_simp
 refine hK.out _ _ (fun h => absurd (by decide) h) ?_
 clear hK K hS2 hc2 hf2
 try simp only [Act.put, aA, aB, aC]
 refine held_done (by kernel_rfl) ?_ _
 have A3 := HA2.out.kept (E := onlyB lb) ((Kp.refl (onlyB lb) W2).setOld lb 5 rfl (.slice (some ⟨g, 0, none⟩) n2 cap)) (fun k hk => by have : k = lb := hk; omega)
 have K3 := HK2.out.setOld lb 5 (Or.inr (Or.inl rfl)) (.slice (some ⟨g, 0, none⟩) n2 cap)
 have P3 := HP2.out.other (p := ⟨lb, 5, none⟩) (by show ¬ lb = ppb; omega) (.slice (some ⟨g, 0, none⟩) n2 cap)
 have HST3 := HST2
 clear HST2
 generalize W2.setCell ⟨lb, 5, none⟩ (.slice (some ⟨g, 0, none⟩) n2 cap) = W3 at *
 have hc3 := P3.cell (i := 0) rfl
 have HA3 := hid A3; have HK3 := hid K3
 clear A3 K3 P3 HA2 HK2 HP2 K1 A1
 show Code.wp _ _ _ _ _
 go_wp2_with fail
 refine (word_any bp L r wSemi _ HA3.out).mono ?_
 rintro e W4 (⟨x, q, h4, rfl, a4, k4⟩ | ⟨q, h4, rfl, k4⟩)
 ·have A4 := hid a4; have H4 := hid h4; have K4 := hid (HK3.out.call k4 (fun k hk => Or.inl (Or.inl hk))); have ST4 := hid (HST3.out.kept k4 (fun k hk => by have : k = bp := hk; omega))
  clear a4 h4 k4
  go_wp2
  go_end0
  refine Or.inl ⟨.pillar m, q, ?_, rfl, ⟨_, ST4.out⟩, A4.out, K4.out⟩
  show andThen _ _ ts = _
  rw [then_of H1.out, then_of H4.out]; rfl
 ·have H4 := hid h4; have K4 := hid (HK3.out.call k4 (fun k hk => Or.inl (Or.inl hk)))
  clear h4 k4
  unfold failP
  go_wp2
  refine ⟨rfl, Or.inr ⟨q, ?_, rfl, K4.out⟩⟩
  show andThen _ _ ts = _
  rw [then_of H1.out, then_bad H4.out]
theorem item5_ent (args : Array Value) (w : World) : (callFunc 146 args).run Tryz.prog w = .ok (.enter 146 args) w := enters_of Tryz.func146 (by kernel_rfl) rfl args w
theorem item5_info : (Tryz.prog.info? 23).map (fun i => (i.zero, i.size, i.bytes)) = some (some (.agg #[.int .i64 0, .int .i64 0]), pointK.size, 16) := by kernel_rfl
set_option linter.unusedSimpArgs false in
set_option maxRecDepth 100000 in
set_option maxHeartbeats 4000000 in
theorem item5_any (bp L lb lvb ppb base at_ : Nat) (ts : List TokP) (c0 c1 c7 v1 v2 v3 v4 v5 : Value) (is : List ItemP) (w : World) (hA : At w bp L ts) (hSt : LvSt w lb base c0 c1 c7 v1 v2 v3 v4 v5 is) (hL : Blk w lvb 193 [.pointer (some ⟨lb, 0, none⟩)]) (hP : Blk w ppb 123 [.pointer (some ⟨bp, 0, none⟩)])
  (hbw : base ≤ w.heap.size) (hlb : lb < base) (hlv : lvb < base) (hpp : ppb < base) (hbp : bp < base) (hbl : bp < lb) (hbv : bp < lvb) (hbq : bp < ppb) (hpq : lb ≠ ppb) (hlen : is.length + 1 ≤ 1000000) :
  Calls Tryz.prog 146 #[.int .i64 (at_ : Nat), .pointer (some ⟨lvb, 0, none⟩), .pointer (some ⟨ppb, 0, none⟩)] w fun e w' =>
   (∃ it r, itemRest 5 at_ ts = .ok it r ∧ e = .returned (.tuple #[]) ∧ (∃ v', LvSt w' lb base c0 c1 c7 v1 v2 v3 v4 v' (is ++ [it])) ∧ At w' bp L r ∧ Kp (fun k => k = bp ∨ k = lb ∨ base ≤ k) w w') ∨ ∃ r, itemRest 5 at_ ts = .bad r ∧ e = failP r L ∧ Kp (fun k => k = bp ∨ k = lb ∨ base ≤ k) w w' := by
 have HA := hid hA; have HST := hid hSt; have HL := hid hL; have HP := hid hP
 clear hA hSt hL hP
 go_enter Tryz.func146, Tryz.ntmps146
 refine wp_seq (wp_region_any (by kernel_rfl) ?_)
 have hS0 : Blk w.drew lb 50 [c0, c1, v1, v2, v3, v4, v5, c7] ∧ Blk w.drew lvb 193 [.pointer (some ⟨lb, 0, none⟩)] ∧ Blk w.drew ppb 123 [.pointer (some ⟨bp, 0, none⟩)] := ⟨HST.out.blk, HL.out, HP.out⟩
 have hA0 : At w.drew bp L ts := HA.out.kept (E := fun _ => False) (Kp.refl _ _).drew (fun _ h => h.elim)
 have hK0 : Kp (fun k => k = bp ∨ k = lb ∨ base ≤ k) w w.drew := (Kp.refl _ _).drew
 have hB0 : LvSt w.drew lb base c0 c1 c7 v1 v2 v3 v4 v5 is := HST.out.kept (E := fun _ => False) (Kp.refl _ _).drew (fun _ h => h.elim)
 have hz0 : base ≤ w.drew.heap.size := hbw
 refine any_of_held (S := fun W => Blk W lb 50 [c0, c1, v1, v2, v3, v4, v5, c7] ∧ Blk W lvb 193 [.pointer (some ⟨lb, 0, none⟩)] ∧ Blk W ppb 123 [.pointer (some ⟨bp, 0, none⟩)]) (N := [11]) _ _ _ _ ?_
 change held _ _ _ _ _ _ _ _ _ w.drew
 obtain ⟨wa, hwa⟩ : ∃ wa, w.drew = wa := ⟨_, rfl⟩
 rw [hwa] at hS0 hA0 hK0 hB0 hz0 ⊢
 have HK0 := hid hK0; have HA0 := hid hA0; have HB0 := hid hB0
 clear hK0 hA0 hB0 hwa HA HST HL HP
 refine held_take [9, 10, 11] (i := 0) (v := .pointer (some ⟨lb, 0, none⟩)) rfl (by kernel_rfl) (fun _ _ _ h => h) (Or.inl ⟨by rfl, fun w' hS => by have hc := hS.2.1.cell (i := 0) rfl; go_simp⟩) hS0 ?_
 try simp only [Act.put, aA, aB, aC]
 refine held_take [2, 3, 4, 8, 11] (i := 1) (v := .pointer (some ⟨lb, 0, none⟩)) rfl (by kernel_rfl) (fun _ _ _ h => h) (Or.inl ⟨by rfl, fun w' hS => by have hc := hS.2.1.cell (i := 0) rfl; go_simp⟩) hS0 ?_
 try simp only [Act.put, aA, aB, aC]
 refine held_take [3, 4, 8, 11] (i := 2) (v := .pointer (some ⟨lb, 0, none⟩)) rfl (by kernel_rfl) (fun _ _ _ h => h) (Or.inl ⟨by rfl, fun w' hS => by go_simp⟩) hS0 ?_
 try simp only [Act.put, aA, aB, aC]
 refine held_take [4, 8, 11] (i := 3) (v := .pointer (some ⟨lb, 6, none⟩)) rfl (by kernel_rfl) (fun _ _ _ h => h) (Or.inl ⟨by rfl, fun w' hS => by go_simp⟩) hS0 ?_
 try simp only [Act.put, aA, aB, aC]
 refine held_take [8, 11] (i := 4) (v := v5) rfl (by kernel_rfl) (fun _ _ _ h => h) (Or.inl ⟨by rfl, fun w' hS => by have hc := hS.1.cell (i := 6) rfl; go_simp⟩) hS0 ?_
 try simp only [Act.put, aA, aB, aC]
 refine held_take [6, 7, 8, 11] (i := 5) (v := .pointer (some ⟨bp, 0, none⟩)) rfl (by kernel_rfl) (fun _ _ _ h => h) (Or.inl ⟨by rfl, fun w' hS => by have hc := hS.2.2.cell (i := 0) rfl; go_simp⟩) hS0 ?_
 try simp only [Act.put, aA, aB, aC]
 refine held_one (i := 6) rfl (by kernel_rfl) (fun K hK => ?_)
 go_simp
 refine (point_any bp L ts wa HA0.out).mono ?_
 rintro e W1 (⟨m, r, h1, rfl, a1, k1⟩ | ⟨r, h1, rfl, k1⟩)
 rotate_left
 ·unfold failP
  refine ⟨rfl, Or.inr ⟨r, ?_, rfl, HK0.out.call k1 (fun k hk => Or.inl (Or.inl hk))⟩⟩
  show andThen _ _ ts = _ 
  exact then_bad h1
 have hS1 : Blk W1 lb 50 [c0, c1, v1, v2, v3, v4, v5, c7] ∧ Blk W1 lvb 193 [.pointer (some ⟨lb, 0, none⟩)] ∧ Blk W1 ppb 123 [.pointer (some ⟨bp, 0, none⟩)] :=
  ⟨hS0.1.kept k1 (fun h => by have : lb = bp := h; omega), hS0.2.1.kept k1 (fun h => by have : lvb = bp := h; omega), hS0.2.2.kept k1 (fun h => by have : ppb = bp := h; omega)⟩
 have hz1 : base ≤ W1.heap.size := Nat.le_trans hz0 k1.size
 have hb1 : LvSt W1 lb base c0 c1 c7 v1 v2 v3 v4 v5 is := HB0.out.kept k1 (fun k hk => by have : k = bp := hk; omega)
 have hsz1 := k1.size
 have hold := HB0.out.lt
 have K1 := hid (HK0.out.call k1 (fun k hk => Or.inl (Or.inl hk))); have A1 := hid a1; have H1 := hid h1; have HB1 := hid hb1; have HOW := hid hold
 clear a1 k1 h1 hb1 hold HB0 HK0 HA0
 unfold pointC
 have hc : pointK.is W1 (fun k => wa.heap.size ≤ k) (pointC m) m := rfl
 refine hK.out _ _ (fun _ => hS1) ?_
 clear hK K
 try simp only [Act.put, aA, aB, aC]
 refine held_one (i := 7) rfl (by kernel_rfl) (fun K hK => ?_)
 go_simp
 refine hK.out _ _ (fun _ => ⟨hS1.1.alloc _, hS1.2.1.alloc _, hS1.2.2.alloc _⟩) ?_
 clear hK K
 try simp only [Act.put, aA, aB, aC]
 refine held_one (i := 8) rfl (by kernel_rfl) (fun K hK => ?_)
 rw [if_pos (by kernel_rfl)]
 obtain ⟨i0, hi, hz0', hz1', hz2⟩ := info_parts item5_info
 obtain ⟨css, hcon, hall⟩ := HB1.out.b5
 have hlc : (doorsOf is).length ≤ is.length := List.length_filterMap_le _ _
 refine con_append (t := 48) (T := 23) (m := pointK.size) (B := base) Tryz.underlying48 hi hz0' hz1' hz2 rfl (by decide) (by decide) (.tmp 8) (.tmp 11) rfl v5 css (pointC m) rfl (hcon.of_block (fun k hk => Below.heap_alloc _ _ _ (by have := (HOW.out v5 (by simp) k hk).2; omega))) W1.heap.size rfl (Blk.new W1 23 (pointC m)) (pointK.len hc) (pointK.one hc) (by rw [All2.length hall]; omega) (by rw [World.size_alloc]; omega) ?_
 intro v' W2 hcon' hg hat hone
 obtain ⟨g, cap, rfl⟩ : ∃ g cap, v' = .slice (some ⟨g, 0, none⟩) (css ++ [(pointC m)]).length cap := by
  rcases hcon'.form with ⟨_, h⟩ | ⟨g, cap, cur, h1, h2, h3, h4, _⟩
  ·simp at h
  ·exact ⟨g, cap, h1⟩
 have hgr : ∀ k, k < W1.heap.size → v5.ownBlock ≠ some k → W2.heap[k]? = W1.heap[k]? := fun k hk hn => (hg.block k (by rw [World.size_alloc]; omega) (fun h => hn h.symm)).trans (Below.heap_alloc _ _ _ hk)
 have hnv : ∀ q, q < base → v5.ownBlock ≠ some q := fun q hq h => by have := (own_lt hcon.own h).1; omega
 have hS2 : Blk W2 lb 50 [c0, c1, v1, v2, v3, v4, v5, c7] ∧ Blk W2 lvb 193 [.pointer (some ⟨lb, 0, none⟩)] ∧ Blk W2 ppb 123 [.pointer (some ⟨bp, 0, none⟩)] := ⟨(hgr lb (by omega) (hnv lb hlb)).trans hS1.1, (hgr lvb (by omega) (hnv lvb hlv)).trans hS1.2.1, (hgr ppb (by omega) (hnv ppb hpp)).trans hS1.2.2⟩
 have K2 : Kp (fun k => k = bp ∨ k = lb ∨ base ≤ k) w W2 := (K1.out.alloc (.cells ((pointC m)).toArray 23)).grown hg (fun k hk => Or.inl (Or.inr (Or.inr (own_lt hcon.own hk).1)))
 have A2 : At W2 bp L r := A1.out.kept (E := fun k => base ≤ k) (((Kp.refl _ W1).alloc (.cells ((pointC m)).toArray 23)).grown hg (fun k hk => Or.inl (own_lt hcon.own hk).1)) (fun k hk => by have : base ≤ k := hk; omega)
 have hst := HB1.out.door hlb hall hc (by omega) (fun v hv k hk => (HOW.out v hv k hk).2) hcon' hgr hat (by rw [World.size_alloc]; omega)
 have HK2 := hid K2; have HA2 := hid A2; have HST2 := hid hst; have HP2 := hid hS2.2.2
 have hc2 := hS2.1.cell (i := 6) rfl
 have hf2 := hS2.1.free 6
 clear K2 A2 hst hgr hg hat hcon hall hc hS0 hS1 hcon' HB1
 generalize (css ++ [(pointC m)]).length = n2 at *
 refine hK.out _ _ (fun _ => hS2) ?_
 clear hK K
 try simp only [Act.put, aA, aB, aC]
 refine held_one (i := 9) rfl (by kernel_rfl) (fun K hK => ?_)
 go_simp
 refine hK.out _ _ (fun _ => hS2) ?_
 clear hK K
 try simp only [Act.put, aA, aB, aC]
 refine held_one (i := 10) rfl (by kernel_rfl) (fun K hK => ?_)
 go_simp
 refine hK.out _ _ (fun _ => hS2) ?_
 clear hK K
 try simp only [Act.put, aA, aB, aC]
 refine held_one (i := 11) rfl (by kernel_rfl) (fun K hK => ?_)
 go_simp
 refine hK.out _ _ (fun h => absurd (by decide) h) ?_
 clear hK K hS2 hc2 hf2
 try simp only [Act.put, aA, aB, aC]
 refine held_done (by kernel_rfl) ?_ _
 have A3 := HA2.out.kept (E := onlyB lb) ((Kp.refl (onlyB lb) W2).setOld lb 6 rfl (.slice (some ⟨g, 0, none⟩) n2 cap)) (fun k hk => by have : k = lb := hk; omega)
 have K3 := HK2.out.setOld lb 6 (Or.inr (Or.inl rfl)) (.slice (some ⟨g, 0, none⟩) n2 cap)
 have P3 := HP2.out.other (p := ⟨lb, 6, none⟩) (by show ¬ lb = ppb; omega) (.slice (some ⟨g, 0, none⟩) n2 cap)
 have HST3 := HST2
 clear HST2
 generalize W2.setCell ⟨lb, 6, none⟩ (.slice (some ⟨g, 0, none⟩) n2 cap) = W3 at *
 have hc3 := P3.cell (i := 0) rfl
 have HA3 := hid A3; have HK3 := hid K3
 clear A3 K3 P3 HA2 HK2 HP2 K1 A1
 show Code.wp _ _ _ _ _
 go_wp2_with fail
 refine (word_any bp L r wSemi _ HA3.out).mono ?_
 rintro e W4 (⟨x, q, h4, rfl, a4, k4⟩ | ⟨q, h4, rfl, k4⟩)
 ·have A4 := hid a4; have H4 := hid h4; have K4 := hid (HK3.out.call k4 (fun k hk => Or.inl (Or.inl hk))); have ST4 := hid (HST3.out.kept k4 (fun k hk => by have : k = bp := hk; omega))
  clear a4 h4 k4
  go_wp2
  go_end0
  refine Or.inl ⟨.door m, q, ?_, rfl, ⟨_, ST4.out⟩, A4.out, K4.out⟩
  show andThen _ _ ts = _
  rw [then_of H1.out, then_of H4.out]; rfl
 ·have H4 := hid h4; have K4 := hid (HK3.out.call k4 (fun k hk => Or.inl (Or.inl hk)))
  clear h4 k4
  unfold failP
  go_wp2
  refine ⟨rfl, Or.inr ⟨q, ?_, rfl, K4.out⟩⟩
  show andThen _ _ ts = _
  rw [then_of H1.out, then_bad H4.out]
end Go.Proofs.YtilfpnkcgjonhaaGreatDoor.Pl
namespace Go.Proofs.YtilfpnkcgjonhaaGreatDoor.Pl
open Go.RowKit Go.Sort Go.Shelf Foyer.Plan Foyer.Round
def itemV (f l p : Nat) : Value := .func (.func f) #[] #[.pointer (some ⟨l, 0, none⟩), .pointer (some ⟨p, 0, none⟩)]
def itemsL (l p : Nat) : List (List UInt8 × Value) := [(wBlock, itemV 139 l p), (wArea, itemV 141 l p), (wAisle, itemV 143 l p), (wPillar, itemV 145 l p), (wDoor, itemV 146 l p)]
def itemAt (k l p : Nat) : Value := if k = 1 then itemV 139 l p else if k = 2 then itemV 141 l p else if k = 3 then itemV 143 l p else if k = 4 then itemV 145 l p else if k = 5 then itemV 146 l p else .nilFunc
theorem items_at (s : List UInt8) (l p : Nat) : (entryAt s (itemsL l p)).getD .nilFunc = itemAt (sort s) l p := by
 unfold itemsL Foyer.Plan.sort
 simp only [entryAt]
 repeat' split
 all_goals rfl
theorem sort_lt (s : List UInt8) : sort s = 0 ∨ sort s = 1 ∨ sort s = 2 ∨ sort s = 3 ∨ sort s = 4 ∨ sort s = 5 := by
 unfold Foyer.Plan.sort
 repeat' split
 all_goals simp
theorem items_look (w : World) {b c l p : Nat} (h : MapB w b (itemsL l p) c) (s : List UInt8) : (Instr.lookup 191 (.map (some b)) (.string ⟨s.toArray⟩) false).run Tryz.prog w = .ok (itemAt (sort s) l p) w := by
 rw [map_lookup Tryz.underlying191 Tryz.underlying9 w (z := .nilFunc) (by kernel_rfl) h, items_at]
theorem nil_nil (w : World) : (binOp BinOp.neq 174 .nilFunc .nilFunc).run Tryz.prog w = .ok (.bool false) w := by kernel_rfl
theorem func_nil (f : Fn) (a b : Array Value) (w : World) : (binOp BinOp.neq 174 (.func f a b) .nilFunc).run Tryz.prog w = .ok (.bool true) w := by kernel_rfl
theorem nil_guard (w : World) : (eqGuard BinOp.neq 174 (.tmp 7) (.const .nilFunc) .nilFunc .nilFunc).run Tryz.prog w = .ok () w := by kernel_rfl
theorem func_guard (f : Fn) (a b : Array Value) (w : World) : (eqGuard BinOp.neq 174 (.tmp 7) (.const .nilFunc) (.func f a b) .nilFunc).run Tryz.prog w = .ok () w := by kernel_rfl
set_option maxRecDepth 100000 in
set_option maxHeartbeats 1000000 in
theorem itemsOf_any (bp lb : Nat) (w : World) : Calls Tryz.prog 116 #[.pointer (some ⟨bp, 0, none⟩), .pointer (some ⟨lb, 0, none⟩)] w fun e w' =>
  e = .returned (.map (some (w.heap.size + 2))) ∧ Kp (fun _ => False) w w' ∧ Blk w' w.heap.size 123 [.pointer (some ⟨bp, 0, none⟩)] ∧ Blk w' (w.heap.size + 1) 193 [.pointer (some ⟨lb, 0, none⟩)] ∧ MapB w' (w.heap.size + 2) (itemsL (w.heap.size + 1) w.heap.size) 5 ∧ w.heap.size + 3 ≤ w'.heap.size := by
 have hmf := makes_func
 obtain ⟨w1, hw1⟩ : ∃ w1, (w.alloc (.cells #[.pointer (some ⟨bp, 0, none⟩)] 123)).alloc (.cells #[.pointer (some ⟨lb, 0, none⟩)] 193) = w1 := ⟨_, rfl⟩
 have hsz : w1.heap.size = w.heap.size + 2 := by rw [← hw1]; simp
 have P1 : Blk w1 w.heap.size 123 [.pointer (some ⟨bp, 0, none⟩)] := by rw [← hw1]; exact (Blk.new w _ [.pointer (some ⟨bp, 0, none⟩)]).alloc _
 have L1 : Blk w1 (w.heap.size + 1) 193 [.pointer (some ⟨lb, 0, none⟩)] := by
  have := Blk.new (w.alloc (.cells #[.pointer (some ⟨bp, 0, none⟩)] 123)) 193 [.pointer (some ⟨lb, 0, none⟩)]
  rw [World.size_alloc] at this
  rw [← hw1]; exact this
 have K1 : Kp (fun _ => False) w w1 := by rw [← hw1]; exact ((Kp.refl _ _).alloc _).alloc _
 have i0 : (Instr.mapUpdate 191 (.map (some (w.heap.size + 2))) (.string ⟨#[98, 108, 111, 99, 107]⟩) (.func (.func 139) #[] #[.pointer (some ⟨w.heap.size + 1, 0, none⟩), .pointer (some ⟨w.heap.size, 0, none⟩)])).run Tryz.prog (w1.alloc (.map #[] 0)) = .ok () (w1.alloc (.map (entriesOf 0 [(wBlock, itemV 139 (w.heap.size + 1) w.heap.size)]).toArray 1)) :=
  map_insert Tryz.underlying191 Tryz.underlying9 w1 [] wBlock (itemV 139 (w.heap.size + 1) w.heap.size) rfl 0 rfl _ hsz.symm
 have i1 : (Instr.mapUpdate 191 (.map (some (w.heap.size + 2))) (.string ⟨#[97, 114, 101, 97]⟩) (.func (.func 141) #[] #[.pointer (some ⟨w.heap.size + 1, 0, none⟩), .pointer (some ⟨w.heap.size, 0, none⟩)])).run Tryz.prog (w1.alloc (.map (entriesOf 0 [(wBlock, itemV 139 (w.heap.size + 1) w.heap.size)]).toArray 1)) = .ok () (w1.alloc (.map (entriesOf 0 [(wBlock, itemV 139 (w.heap.size + 1) w.heap.size), (wArea, itemV 141 (w.heap.size + 1) w.heap.size)]).toArray 2)) :=
  map_insert Tryz.underlying191 Tryz.underlying9 w1 [(wBlock, itemV 139 (w.heap.size + 1) w.heap.size)] wArea (itemV 141 (w.heap.size + 1) w.heap.size) rfl 1 rfl _ hsz.symm
 have i2 : (Instr.mapUpdate 191 (.map (some (w.heap.size + 2))) (.string ⟨#[97, 105, 115, 108, 101]⟩) (.func (.func 143) #[] #[.pointer (some ⟨w.heap.size + 1, 0, none⟩), .pointer (some ⟨w.heap.size, 0, none⟩)])).run Tryz.prog (w1.alloc (.map (entriesOf 0 [(wBlock, itemV 139 (w.heap.size + 1) w.heap.size), (wArea, itemV 141 (w.heap.size + 1) w.heap.size)]).toArray 2)) = .ok () (w1.alloc (.map (entriesOf 0 [(wBlock, itemV 139 (w.heap.size + 1) w.heap.size), (wArea, itemV 141 (w.heap.size + 1) w.heap.size), (wAisle, itemV 143 (w.heap.size + 1) w.heap.size)]).toArray 3)) :=
  map_insert Tryz.underlying191 Tryz.underlying9 w1 [(wBlock, itemV 139 (w.heap.size + 1) w.heap.size), (wArea, itemV 141 (w.heap.size + 1) w.heap.size)] wAisle (itemV 143 (w.heap.size + 1) w.heap.size) rfl 2 rfl _ hsz.symm
 have i3 : (Instr.mapUpdate 191 (.map (some (w.heap.size + 2))) (.string ⟨#[112, 105, 108, 108, 97, 114]⟩) (.func (.func 145) #[] #[.pointer (some ⟨w.heap.size + 1, 0, none⟩), .pointer (some ⟨w.heap.size, 0, none⟩)])).run Tryz.prog (w1.alloc (.map (entriesOf 0 [(wBlock, itemV 139 (w.heap.size + 1) w.heap.size), (wArea, itemV 141 (w.heap.size + 1) w.heap.size), (wAisle, itemV 143 (w.heap.size + 1) w.heap.size)]).toArray 3)) = .ok () (w1.alloc (.map (entriesOf 0 [(wBlock, itemV 139 (w.heap.size + 1) w.heap.size), (wArea, itemV 141 (w.heap.size + 1) w.heap.size), (wAisle, itemV 143 (w.heap.size + 1) w.heap.size), (wPillar, itemV 145 (w.heap.size + 1) w.heap.size)]).toArray 4)) :=
  map_insert Tryz.underlying191 Tryz.underlying9 w1 [(wBlock, itemV 139 (w.heap.size + 1) w.heap.size), (wArea, itemV 141 (w.heap.size + 1) w.heap.size), (wAisle, itemV 143 (w.heap.size + 1) w.heap.size)] wPillar (itemV 145 (w.heap.size + 1) w.heap.size) rfl 3 rfl _ hsz.symm
 have i4 : (Instr.mapUpdate 191 (.map (some (w.heap.size + 2))) (.string ⟨#[100, 111, 111, 114]⟩) (.func (.func 146) #[] #[.pointer (some ⟨w.heap.size + 1, 0, none⟩), .pointer (some ⟨w.heap.size, 0, none⟩)])).run Tryz.prog (w1.alloc (.map (entriesOf 0 [(wBlock, itemV 139 (w.heap.size + 1) w.heap.size), (wArea, itemV 141 (w.heap.size + 1) w.heap.size), (wAisle, itemV 143 (w.heap.size + 1) w.heap.size), (wPillar, itemV 145 (w.heap.size + 1) w.heap.size)]).toArray 4)) = .ok () (w1.alloc (.map (entriesOf 0 (itemsL (w.heap.size + 1) w.heap.size)).toArray 5)) :=
  map_insert Tryz.underlying191 Tryz.underlying9 w1 [(wBlock, itemV 139 (w.heap.size + 1) w.heap.size), (wArea, itemV 141 (w.heap.size + 1) w.heap.size), (wAisle, itemV 143 (w.heap.size + 1) w.heap.size), (wPillar, itemV 145 (w.heap.size + 1) w.heap.size)] wDoor (itemV 146 (w.heap.size + 1) w.heap.size) rfl 4 rfl _ hsz.symm
 have hmm : (Instr.makeMap 191 none).run Tryz.prog w1 = .ok (.map (some w1.heap.size)) (w1.alloc (.map #[] 0)) := run_makeMap _ _
 have P2 := P1.alloc (.map (entriesOf 0 (itemsL (w.heap.size + 1) w.heap.size)).toArray 5)
 have L2 := L1.alloc (.map (entriesOf 0 (itemsL (w.heap.size + 1) w.heap.size)).toArray 5)
 have K2 := K1.alloc (.map (entriesOf 0 (itemsL (w.heap.size + 1) w.heap.size)).toArray 5)
 have M2 : MapB (w1.alloc (.map (entriesOf 0 (itemsL (w.heap.size + 1) w.heap.size)).toArray 5)) (w.heap.size + 2) (itemsL (w.heap.size + 1) w.heap.size) 5 := by rw [← hsz]; exact (MapKept.heap_alloc w1 _).1
 have Z2 : w.heap.size + 3 ≤ (w1.alloc (.map (entriesOf 0 (itemsL (w.heap.size + 1) w.heap.size)).toArray 5)).heap.size := by simp [hsz]
 have P2 := hid P2; have L2 := hid L2; have K2 := hid K2; have M2 := hid M2; have Z2 := hid Z2
 clear P1 L1 K1
 go_enter Tryz.func116, Tryz.ntmps116
 go_wp2
 refine bodyPost_ret (results_tmp rfl _ _ _) rfl ?_
 exact ⟨rfl, K2.out, P2.out, L2.out, M2.out, Z2.out⟩
theorem levelT_ent (args : Array Value) (w : World) : (callFunc 118 args).run Tryz.prog w = .ok (.enter 118 args) w := enters_of Tryz.func118 (by kernel_rfl) rfl args w
set_option maxRecDepth 100000 in
theorem levelT_asks (ib mb c l p : Nat) (E : Nat → Prop) (w : World) (hk : Blk w ib 191 [.map (some mb)]) (hm : MapB w mb (itemsL l p) c) (h1 : ¬ E ib) (h2 : ¬ E mb) : Asks 118 #[.pointer (some ⟨ib, 0, none⟩)] (fun t => decide (sort t.text ≠ 0)) E w := by
 intro w1 t k
 have hB := (hk.kept k h1).alloc (.cells #[.int .i64 (t.kind : Nat), .string ⟨t.text.toArray⟩, .int .i64 (t.val : Nat), .int .i64 (t.pos : Nat)] 119)
 have hM := (hm.kept k h2).kept (E := fun _ => False) ((Kp.refl _ _).alloc (.cells #[.int .i64 (t.kind : Nat), .string ⟨t.text.toArray⟩, .int .i64 (t.val : Nat), .int .i64 (t.pos : Nat)] 119)) (fun h => h)
 have h0 := hB.cell (i := 0) rfl
 have hl := items_look _ hM t.text
 show Calls Tryz.prog 118 #[.agg #[.int .i64 (t.kind : Nat), .string ⟨t.text.toArray⟩, .int .i64 (t.val : Nat), .int .i64 (t.pos : Nat)], .pointer (some ⟨ib, 0, none⟩)] w1 _
 have hw : ∃ b, decide (sort t.text ≠ 0) = b ∧ (∀ w, (binOp BinOp.neq 174 (itemAt (sort t.text) l p) .nilFunc).run Tryz.prog w = .ok (.bool b) w) ∧ ∀ w, (eqGuard BinOp.neq 174 (.tmp 7) (.const .nilFunc) (itemAt (sort t.text) l p) .nilFunc).run Tryz.prog w = .ok () w := by
  rcases sort_lt t.text with h | h | h | h | h | h <;> rw [h]
  ·exact ⟨false, by decide, nil_nil, nil_guard⟩
  all_goals exact ⟨true, by decide, fun w => func_nil _ _ _ w, fun w => func_guard _ _ _ w⟩
 obtain ⟨b, hb, hw, hgd⟩ := hw
 obtain ⟨v, hv⟩ : ∃ v, itemAt (sort t.text) l p = v := ⟨_, rfl⟩
 rw [hv] at hl hw hgd
 have HB := hid hb
 clear hB hM k hk hm h1 h2 hb hv
 go_enter Tryz.func118, Tryz.ntmps118
 go_wp2
 refine bodyPost_ret (results_tmp rfl _ _ _) rfl ⟨?_, (Kp.refl _ _).alloc _⟩
 show Ending.returned (.bool b) = Ending.returned (.bool (decide (sort t.text ≠ 0)))
 rw [HB.out]
end Go.Proofs.YtilfpnkcgjonhaaGreatDoor.Pl
namespace Go.Proofs.YtilfpnkcgjonhaaGreatDoor.Pl
open Go.RowKit Go.Sort Go.Shelf Foyer.Plan Foyer.Round
theorem levelC_ent (args : Array Value) (w : World) : (callFunc 117 args).run Tryz.prog w = .ok (.enter 117 args) w := enters_of Tryz.func117 (by kernel_rfl) rfl args w
set_option maxRecDepth 100000 in
set_option maxHeartbeats 4000000 in
theorem levelC_any (bp L lb pb ib mb lvb ppb base : Nat) (ts : List TokP) (c0 c1 c7 v1 v2 v3 v4 v5 : Value) (is : List ItemP) (w : World) (hA : At w bp L ts) (hSt : LvSt w lb base c0 c1 c7 v1 v2 v3 v4 v5 is) (hB : Blk w pb 123 [.pointer (some ⟨bp, 0, none⟩)])
  (hI : Blk w ib 191 [.map (some mb)]) (hM : MapB w mb (itemsL lvb ppb) 5) (hL : Blk w lvb 193 [.pointer (some ⟨lb, 0, none⟩)]) (hP : Blk w ppb 123 [.pointer (some ⟨bp, 0, none⟩)])
  (hbw : base ≤ w.heap.size) (hlb : lb < base) (hlv : lvb < base) (hpp : ppb < base) (hbp : bp < base) (hbl : bp < lb) (hbv : bp < lvb) (hbq : bp < ppb) (hpq : lb < ppb) (hbm : bp < mb) (hbi : bp < ib) (hlen : is.length + 1 ≤ 1000000) (hts : ts.length ≤ 5000) :
  Calls Tryz.prog 117 #[.pointer (some ⟨pb, 0, none⟩), .pointer (some ⟨ib, 0, none⟩)] w fun e w' =>
   (∃ it r, itemP ts = .ok it r ∧ e = .returned (.tuple #[]) ∧ (∃ v1' v2' v3' v4' v5', LvSt w' lb base c0 c1 c7 v1' v2' v3' v4' v5' (is ++ [it])) ∧ At w' bp L r ∧ Kp (fun k => k = bp ∨ k = lb ∨ base ≤ k) w w') ∨ ∃ r, itemP ts = .bad r ∧ e = failP r L ∧ Kp (fun k => k = bp ∨ k = lb ∨ base ≤ k) w w' := by
 have hmf := makes_func
 have cB := hB.cell (i := 0) rfl
 have HA := hid hA; have HST := hid hSt; have HL := hid hL; have HP := hid hP; have HM := hid hM; have HI := hid hI
 clear hA hSt hL hP hM hI hB
 go_enter Tryz.func117, Tryz.ntmps117
 go_wp2_with fail
 refine (take_any bp L ts 118 levelT_ent #[.pointer (some ⟨ib, 0, none⟩)] (fun t => decide (sort t.text ≠ 0)) w HA.out (levelT_asks ib mb 5 lvb ppb _ w HI.out HM.out (fun h => h) (fun h => h))).mono ?_
 rintro e W1 (⟨t, s, h1, rfl, a1, k1⟩ | ⟨s, h1, rfl, k1⟩)
 rotate_left
 ·have K1 := hid (k1.mono (E' := (fun k => k = bp ∨ k = lb ∨ base ≤ k)) (fun k hk => Or.inl hk)); have H1 := hid h1
  clear k1 h1
  unfold failP
  go_wp2
  exact ⟨rfl, Or.inr ⟨s, (show andThen _ _ ts = _ from then_bad H1.out), rfl, K1.out⟩⟩
 have hq := (takeP_ok h1).2
 have H1 := hid h1
 have o := (.cells #[.int .i64 (t.kind : Nat), .string ⟨t.text.toArray⟩, .int .i64 (t.val : Nat), .int .i64 (t.pos : Nat)] 119 : Obj)
 have st1 := HST.out.kept k1 (fun k hk => by have : k = bp := hk; omega)
 have st2 := st1.kept (E := fun _ => False) ((Kp.refl _ _).alloc (.cells #[.int .i64 (t.kind : Nat), .string ⟨t.text.toArray⟩, .int .i64 (t.val : Nat), .int .i64 (t.pos : Nat)] 119)) (fun _ h => h.elim)
 have l2 := (HL.out.kept k1 (fun h => by have : lvb = bp := h; omega)).alloc (.cells #[.int .i64 (t.kind : Nat), .string ⟨t.text.toArray⟩, .int .i64 (t.val : Nat), .int .i64 (t.pos : Nat)] 119)
 have p2 := (HP.out.kept k1 (fun h => by have : ppb = bp := h; omega)).alloc (.cells #[.int .i64 (t.kind : Nat), .string ⟨t.text.toArray⟩, .int .i64 (t.val : Nat), .int .i64 (t.pos : Nat)] 119)
 have i2 := (HI.out.kept k1 (fun h => by have : ib = bp := h; omega)).alloc (.cells #[.int .i64 (t.kind : Nat), .string ⟨t.text.toArray⟩, .int .i64 (t.val : Nat), .int .i64 (t.pos : Nat)] 119)
 have m2 := (HM.out.kept k1 (fun h => by have : mb = bp := h; omega)).kept (E := fun _ => False) ((Kp.refl _ _).alloc (.cells #[.int .i64 (t.kind : Nat), .string ⟨t.text.toArray⟩, .int .i64 (t.val : Nat), .int .i64 (t.pos : Nat)] 119)) (fun h => h)
 have a2 := a1.kept (E := fun _ => False) ((Kp.refl _ _).alloc (.cells #[.int .i64 (t.kind : Nat), .string ⟨t.text.toArray⟩, .int .i64 (t.val : Nat), .int .i64 (t.pos : Nat)] 119)) (fun _ h => h.elim)
 have k2 := (k1.mono (E' := (fun k => k = bp ∨ k = lb ∨ base ≤ k)) (fun k hk => Or.inl hk)).alloc (.cells #[.int .i64 (t.kind : Nat), .string ⟨t.text.toArray⟩, .int .i64 (t.val : Nat), .int .i64 (t.pos : Nat)] 119)
 have x2 := Blk.new W1 119 [.int .i64 (t.kind : Nat), .string ⟨t.text.toArray⟩, .int .i64 (t.val : Nat), .int .i64 (t.pos : Nat)]
 have hz2 : base ≤ (W1.alloc (.cells #[.int .i64 (t.kind : Nat), .string ⟨t.text.toArray⟩, .int .i64 (t.val : Nat), .int .i64 (t.pos : Nat)] 119)).heap.size := Nat.le_trans (Nat.le_trans hbw k1.size) (by simp)
 clear o st1 k1 a1 h1 HST HL HP HI HM HA cB
 unfold tkV
 go_upto_region 1 with fail
 generalize W1.alloc (.cells #[.int .i64 (t.kind : Nat), .string ⟨t.text.toArray⟩, .int .i64 (t.val : Nat), .int .i64 (t.pos : Nat)] 119) = W2 at *
 have hl := items_look _ m2 t.text
 have ci := i2.cell (i := 0) rfl
 have cx1 := x2.cell (i := 1) rfl
 have cx3 := x2.cell (i := 3) rfl
 have ST2 := hid st2; have L2 := hid l2; have P2 := hid p2; have A2 := hid a2; have K2 := hid k2
 clear st2 l2 p2 i2 m2 a2 k2 x2
 rcases sort_lt t.text with hk | hk | hk | hk | hk | hk
 ·rw [hk] at hq; exact absurd hq (by decide)
 ·-- 1
  have HS1 := hid hk
  rw [hk] at hl
  rw [show itemAt 1 lvb ppb = .func (.func 139) #[] #[.pointer (some ⟨lvb, 0, none⟩), .pointer (some ⟨ppb, 0, none⟩)] from rfl] at hl
  have hen := item1_ent
  clear hk
  go_wp2_with fail
  refine (item1_any bp L lb lvb ppb base t.pos s c0 c1 c7 v1 v2 v3 v4 v5 is W2 A2.out ST2.out L2.out P2.out hz2 hlb hlv hpp hbp hbl hbv hbq hlen (by have := shrink (det_take _) H1.out; omega)).mono ?_
  rintro e W3 (⟨it, q, h3, rfl, ⟨v', st⟩, a3, k3⟩ | ⟨q, h3, rfl, k3⟩)
  ·have A3 := hid a3; have ST3 := hid st; have K3 := hid (K2.out.trans k3); have H3 := hid h3
   clear a3 st k3 h3 hl
   go_wp2
   go_end0
   refine Or.inl ⟨it, q, ?_, rfl, ⟨_, _, _, _, _, ST3.out⟩, A3.out, K3.out⟩
   show andThen _ _ ts = _
   rw [then_of H1.out, HS1.out, H3.out]
  ·have K3 := hid (K2.out.trans k3); have H3 := hid h3
   clear k3 h3 hl
   unfold failP
   go_wp2
   refine ⟨rfl, Or.inr ⟨q, ?_, rfl, K3.out⟩⟩
   show andThen _ _ ts = _
   rw [then_of H1.out, HS1.out, H3.out]
 ·-- 2
  have HS2 := hid hk
  rw [hk] at hl
  rw [show itemAt 2 lvb ppb = .func (.func 141) #[] #[.pointer (some ⟨lvb, 0, none⟩), .pointer (some ⟨ppb, 0, none⟩)] from rfl] at hl
  have hen := item2_ent
  clear hk
  go_wp2_with fail
  refine (item2_any bp L lb lvb ppb base t.pos s c0 c1 c7 v1 v2 v3 v4 v5 is W2 A2.out ST2.out L2.out P2.out hz2 hlb hlv hpp hbp hbl hbv hbq hlen).mono ?_
  rintro e W3 (⟨it, q, h3, rfl, ⟨v', st⟩, a3, k3⟩ | ⟨q, h3, rfl, k3⟩)
  ·have A3 := hid a3; have ST3 := hid st; have K3 := hid (K2.out.trans k3); have H3 := hid h3
   clear a3 st k3 h3 hl
   go_wp2
   go_end0
   refine Or.inl ⟨it, q, ?_, rfl, ⟨_, _, _, _, _, ST3.out⟩, A3.out, K3.out⟩
   show andThen _ _ ts = _
   rw [then_of H1.out, HS2.out, H3.out]
  ·have K3 := hid (K2.out.trans k3); have H3 := hid h3
   clear k3 h3 hl
   unfold failP
   go_wp2
   refine ⟨rfl, Or.inr ⟨q, ?_, rfl, K3.out⟩⟩
   show andThen _ _ ts = _
   rw [then_of H1.out, HS2.out, H3.out]
 ·-- 3
  have HS3 := hid hk
  rw [hk] at hl
  rw [show itemAt 3 lvb ppb = .func (.func 143) #[] #[.pointer (some ⟨lvb, 0, none⟩), .pointer (some ⟨ppb, 0, none⟩)] from rfl] at hl
  have hen := item3_ent
  clear hk
  go_wp2_with fail
  refine (item3_any bp L lb lvb ppb base t.pos s c0 c1 c7 v1 v2 v3 v4 v5 is W2 A2.out ST2.out L2.out P2.out hz2 hlb hlv hpp hbp hbl hbv hbq (by omega) hlen).mono ?_
  rintro e W3 (⟨it, q, h3, rfl, ⟨v', st⟩, a3, k3⟩ | ⟨q, h3, rfl, k3⟩)
  ·have A3 := hid a3; have ST3 := hid st; have K3 := hid (K2.out.trans k3); have H3 := hid h3
   clear a3 st k3 h3 hl
   go_wp2
   go_end0
   refine Or.inl ⟨it, q, ?_, rfl, ⟨_, _, _, _, _, ST3.out⟩, A3.out, K3.out⟩
   show andThen _ _ ts = _
   rw [then_of H1.out, HS3.out, H3.out]
  ·have K3 := hid (K2.out.trans k3); have H3 := hid h3
   clear k3 h3 hl
   unfold failP
   go_wp2
   refine ⟨rfl, Or.inr ⟨q, ?_, rfl, K3.out⟩⟩
   show andThen _ _ ts = _
   rw [then_of H1.out, HS3.out, H3.out]
 ·-- 4
  have HS4 := hid hk
  rw [hk] at hl
  rw [show itemAt 4 lvb ppb = .func (.func 145) #[] #[.pointer (some ⟨lvb, 0, none⟩), .pointer (some ⟨ppb, 0, none⟩)] from rfl] at hl
  have hen := item4_ent
  clear hk
  go_wp2_with fail
  refine (item4_any bp L lb lvb ppb base t.pos s c0 c1 c7 v1 v2 v3 v4 v5 is W2 A2.out ST2.out L2.out P2.out hz2 hlb hlv hpp hbp hbl hbv hbq (by omega) hlen).mono ?_
  rintro e W3 (⟨it, q, h3, rfl, ⟨v', st⟩, a3, k3⟩ | ⟨q, h3, rfl, k3⟩)
  ·have A3 := hid a3; have ST3 := hid st; have K3 := hid (K2.out.trans k3); have H3 := hid h3
   clear a3 st k3 h3 hl
   go_wp2
   go_end0
   refine Or.inl ⟨it, q, ?_, rfl, ⟨_, _, _, _, _, ST3.out⟩, A3.out, K3.out⟩
   show andThen _ _ ts = _
   rw [then_of H1.out, HS4.out, H3.out]
  ·have K3 := hid (K2.out.trans k3); have H3 := hid h3
   clear k3 h3 hl
   unfold failP
   go_wp2
   refine ⟨rfl, Or.inr ⟨q, ?_, rfl, K3.out⟩⟩
   show andThen _ _ ts = _
   rw [then_of H1.out, HS4.out, H3.out]
 ·-- 5
  have HS5 := hid hk
  rw [hk] at hl
  rw [show itemAt 5 lvb ppb = .func (.func 146) #[] #[.pointer (some ⟨lvb, 0, none⟩), .pointer (some ⟨ppb, 0, none⟩)] from rfl] at hl
  have hen := item5_ent
  clear hk
  go_wp2_with fail
  refine (item5_any bp L lb lvb ppb base t.pos s c0 c1 c7 v1 v2 v3 v4 v5 is W2 A2.out ST2.out L2.out P2.out hz2 hlb hlv hpp hbp hbl hbv hbq (by omega) hlen).mono ?_
  rintro e W3 (⟨it, q, h3, rfl, ⟨v', st⟩, a3, k3⟩ | ⟨q, h3, rfl, k3⟩)
  ·have A3 := hid a3; have ST3 := hid st; have K3 := hid (K2.out.trans k3); have H3 := hid h3
   clear a3 st k3 h3 hl
   go_wp2
   go_end0
   refine Or.inl ⟨it, q, ?_, rfl, ⟨_, _, _, _, _, ST3.out⟩, A3.out, K3.out⟩
   show andThen _ _ ts = _
   rw [then_of H1.out, HS5.out, H3.out]
  ·have K3 := hid (K2.out.trans k3); have H3 := hid h3
   clear k3 h3 hl
   unfold failP
   go_wp2
   refine ⟨rfl, Or.inr ⟨q, ?_, rfl, K3.out⟩⟩
   show andThen _ _ ts = _
   rw [then_of H1.out, HS5.out, H3.out]
end Go.Proofs.YtilfpnkcgjonhaaGreatDoor.Pl
namespace Go.Proofs.YtilfpnkcgjonhaaGreatDoor.Pl
open Go.RowKit Go.Sort Go.Shelf Foyer.Plan Foyer.Round
theorem LvSt.result {W : World} {lb base hh at_ : Nat} {nm : List UInt8} {v1 v2 v3 v4 v5 : Value} {is : List ItemP} (h : LvSt W lb base (.string ⟨nm.toArray⟩) (.int .i64 (hh : Nat)) (.int .i64 (at_ : Nat)) v1 v2 v3 v4 v5 is) {rb n : Nat} (hb : rb < base) (hn : n ≤ base) (vs : List Value) :
  LevelIs (W.setCells rb 0 vs) (fun k => n ≤ k) (levelCl (levelOf nm hh is at_) v1 v2 v3 v4 v5) (levelOf nm hh is at_) v1 v2 v3 v4 v5 := by
 have key : ∀ {β : Type} {K : Kind β} {T : TypeId} {v : Value} {xs : List β}, Building K W (Fv base [v1, v2, v3, v4, v5]) base T v xs → IsList K (W.setCells rb 0 vs) (fun k => n ≤ k) T v xs := fun hB => by
  have h2 : Building _ (W.setCells rb 0 vs) (fun k => base ≤ k) base _ _ _ := hB.kept (fun k hk => setCells_heap W rb vs (hB.lt hk).2 (by have := (hB.lt hk).1; omega)) (fun k hk hlt => setCells_heap W rb vs hlt (by have := hk.1; omega)) (fun k hk _ => hk.1)
  exact h2.done (fun k hk _ => Nat.le_trans hn hk) (fun k hk => Nat.le_trans hn hk)
 exact ⟨rfl, key h.b1, key h.b2, key h.b3, key h.b4, key h.b5⟩
set_option maxRecDepth 100000 in
set_option maxHeartbeats 4000000 in
theorem level_any (bp L : Nat) (ts : List TokP) (w : World) (hts : ts.length ≤ 5000) (h : At w bp L ts) : Calls Tryz.prog 90 #[.pointer (some ⟨bp, 0, none⟩)] w (Gives bp L (onlyB bp) w (levelP ts) (KindV levelK w.heap.size)) := by
 have hlt := h.lt
 have hmf := makes_func
 have P0 := (Blk.new w 123 [.pointer (some ⟨bp, 0, none⟩)]).alloc (.cells #[.string ⟨#[]⟩, .int .i64 0, .slice none 0 0, .slice none 0 0, .slice none 0 0, .slice none 0 0, .slice none 0 0, .int .i64 0] 50)
 have R0 := Blk.new (w.alloc (.cells #[.pointer (some ⟨bp, 0, none⟩)] 123)) 50 [.string ⟨#[]⟩, .int .i64 0, .slice none 0 0, .slice none 0 0, .slice none 0 0, .slice none 0 0, .slice none 0 0, .int .i64 0]
 rw [show (w.alloc (.cells #[.pointer (some ⟨bp, 0, none⟩)] 123)).heap.size = w.heap.size + 1 by simp] at R0
 have K0 : Kp (onlyB bp) w ((w.alloc (.cells #[.pointer (some ⟨bp, 0, none⟩)] 123)).alloc (.cells #[.string ⟨#[]⟩, .int .i64 0, .slice none 0 0, .slice none 0 0, .slice none 0 0, .slice none 0 0, .slice none 0 0, .int .i64 0] 50)) := ((Kp.refl _ _).alloc _).alloc _
 have A0 := h.kept (E := fun _ => False) (((Kp.refl _ w).alloc (.cells #[.pointer (some ⟨bp, 0, none⟩)] 123)).alloc (.cells #[.string ⟨#[]⟩, .int .i64 0, .slice none 0 0, .slice none 0 0, .slice none 0 0, .slice none 0 0, .slice none 0 0, .int .i64 0] 50)) (fun _ h => h.elim)
 have hs0 : w.heap.size + 2 ≤ ((w.alloc (.cells #[.pointer (some ⟨bp, 0, none⟩)] 123)).alloc (.cells #[.string ⟨#[]⟩, .int .i64 0, .slice none 0 0, .slice none 0 0, .slice none 0 0, .slice none 0 0, .slice none 0 0, .int .i64 0] 50)).heap.size := by simp
 clear h
 go_enter Tryz.func90, Tryz.ntmps90
 go_upto_region 1 with fail
 generalize (w.alloc (.cells #[.pointer (some ⟨bp, 0, none⟩)] 123)).alloc (.cells #[.string ⟨#[]⟩, .int .i64 0, .slice none 0 0, .slice none 0 0, .slice none 0 0, .slice none 0 0, .slice none 0 0, .int .i64 0] 50) = W0 at *
 have P0 := hid P0; have R0 := hid R0; have K0 := hid K0; have A0 := hid A0
 have cP0 := P0.out.cell (i := 0) rfl
 go_wp2_with fail
 refine (word_any bp L ts wLevel _ A0.out).mono ?_
 rintro e W1 (⟨at_, r1, h1, rfl, a1, k1⟩ | ⟨r1, h1, rfl, k1⟩)
 rotate_left
 ·have KK := hid (K0.out.trans k1); have HB := hid h1
  clear h1 k1
  unfold failP
  go_wp2
  refine ⟨rfl, gives_bad _ ?_ KK.out⟩
  show levelP ts = _
  unfold levelP
  rw [then_bad HB.out]
 have P1 := hid (P0.out.kept k1 (fun h => by have : w.heap.size = bp := h; omega))
 have R1 := hid (R0.out.kept k1 (fun h => by have : (w.heap.size + 1) = bp := h; omega))
 have K1 := hid (K0.out.trans k1); have A1 := hid a1; have H1 := hid h1; have hs1 := k1.size
 clear h1 a1 k1 cP0 P0 R0 K0 A0
 go_upto_region 2 with fail
 have V2 := Blk.new W1 50 [.string ⟨#[]⟩, .int .i64 0, .slice none 0 0, .slice none 0 0, .slice none 0 0, .slice none 0 0, .slice none 0 0, .int .i64 (at_ : Nat)]
 have P2 := P1.out.alloc (.cells #[.string ⟨#[]⟩, .int .i64 0, .slice none 0 0, .slice none 0 0, .slice none 0 0, .slice none 0 0, .slice none 0 0, .int .i64 (at_ : Nat)] 50)
 have R2 := R1.out.alloc (.cells #[.string ⟨#[]⟩, .int .i64 0, .slice none 0 0, .slice none 0 0, .slice none 0 0, .slice none 0 0, .slice none 0 0, .int .i64 (at_ : Nat)] 50)
 have K2 := K1.out.alloc (.cells #[.string ⟨#[]⟩, .int .i64 0, .slice none 0 0, .slice none 0 0, .slice none 0 0, .slice none 0 0, .slice none 0 0, .int .i64 (at_ : Nat)] 50)
 have A2 := A1.out.kept (E := fun _ => False) ((Kp.refl _ _).alloc (.cells #[.string ⟨#[]⟩, .int .i64 0, .slice none 0 0, .slice none 0 0, .slice none 0 0, .slice none 0 0, .slice none 0 0, .int .i64 (at_ : Nat)] 50)) (fun _ h => h.elim)
 have hs2 : W1.heap.size < (W1.alloc (.cells #[.string ⟨#[]⟩, .int .i64 0, .slice none 0 0, .slice none 0 0, .slice none 0 0, .slice none 0 0, .slice none 0 0, .int .i64 (at_ : Nat)] 50)).heap.size := by simp
 generalize W1.alloc (.cells #[.string ⟨#[]⟩, .int .i64 0, .slice none 0 0, .slice none 0 0, .slice none 0 0, .slice none 0 0, .slice none 0 0, .int .i64 (at_ : Nat)] 50) = W2 at *
 generalize W1.heap.size = vb at *
 have P2 := hid P2
 have R2 := hid R2
 have V2 := hid V2
 have K2 := hid K2; have A2 := hid A2
 clear P1 R1 K1 A1
 have cP0 := P2.out.cell (i := 0) rfl
 go_wp2_with fail
 refine (name_any bp L r1 _ A2.out).mono ?_
 rintro e W3 (⟨nm, r3, h3, rfl, a3, k3⟩ | ⟨r3, h3, rfl, k3⟩)
 rotate_left
 ·have KK := hid (K2.out.trans k3); have HB := hid h3
  clear h3 k3
  unfold failP
  go_wp2
  refine ⟨rfl, gives_bad _ ?_ KK.out⟩
  show levelP ts = _
  unfold levelP
  rw [then_of H1.out, then_bad HB.out]
 have P3 := hid (P2.out.kept k3 (fun h => by have : w.heap.size = bp := h; omega))
 have R3 := hid (R2.out.kept k3 (fun h => by have : (w.heap.size + 1) = bp := h; omega))
 have V3 := hid (V2.out.kept k3 (fun h => by have : vb = bp := h; omega))
 have K3 := hid (K2.out.trans k3); have A3 := hid a3; have H3 := hid h3; have hs3 := k3.size
 clear h3 a3 k3 cP0 P2 R2 V2 K2 A2
 have cs := V3.out.cell (i := 0) rfl
 have cf := V3.out.free 0
 go_upto_region 3 with fail
 have P4 := P3.out.other (p := ⟨vb, 0, none⟩) (by show ¬ vb = w.heap.size; omega) (.string ⟨nm.toArray⟩)
 have R4 := R3.out.other (p := ⟨vb, 0, none⟩) (by show ¬ vb = (w.heap.size + 1); omega) (.string ⟨nm.toArray⟩)
 have V4 : Blk (W3.setCell ⟨vb, 0, none⟩ (.string ⟨nm.toArray⟩)) vb 50 [.string ⟨nm.toArray⟩, .int .i64 0, .slice none 0 0, .slice none 0 0, .slice none 0 0, .slice none 0 0, .slice none 0 0, .int .i64 (at_ : Nat)] := V3.out.set 0 (.string ⟨nm.toArray⟩)
 have K4 := K3.out.setNew vb 0 (by omega) (.string ⟨nm.toArray⟩)
 have A4 := A3.out.kept (E := onlyB vb) ((Kp.refl (onlyB vb) W3).setOld vb 0 rfl (.string ⟨nm.toArray⟩)) (fun k hk => by have : k = vb := hk; omega)
 have hs4 : W3.heap.size ≤ (W3.setCell ⟨vb, 0, none⟩ (.string ⟨nm.toArray⟩)).heap.size := by simp
 generalize W3.setCell ⟨vb, 0, none⟩ (.string ⟨nm.toArray⟩) = W4 at *
 have P4 := hid P4
 have R4 := hid R4
 have V4 := hid V4
 have K4 := hid K4; have A4 := hid A4
 clear cs cf P3 R3 V3 K3 A3
 have cP0 := P4.out.cell (i := 0) rfl
 go_wp2_with fail
 refine (word_any bp L r3 wHeight _ A4.out).mono ?_
 rintro e W5 (⟨x2, r5, h5, rfl, a5, k5⟩ | ⟨r5, h5, rfl, k5⟩)
 rotate_left
 ·have KK := hid (K4.out.trans k5); have HB := hid h5
  clear h5 k5
  unfold failP
  go_wp2
  refine ⟨rfl, gives_bad _ ?_ KK.out⟩
  show levelP ts = _
  unfold levelP
  rw [then_of H1.out, then_of H3.out, then_bad HB.out]
 have P5 := hid (P4.out.kept k5 (fun h => by have : w.heap.size = bp := h; omega))
 have R5 := hid (R4.out.kept k5 (fun h => by have : (w.heap.size + 1) = bp := h; omega))
 have V5 := hid (V4.out.kept k5 (fun h => by have : vb = bp := h; omega))
 have K5 := hid (K4.out.trans k5); have A5 := hid a5; have H5 := hid h5; have hs5 := k5.size
 clear h5 a5 k5 cP0 P4 R4 V4 K4 A4
 have cP0 := P5.out.cell (i := 0) rfl
 go_wp2_with fail
 refine (numbers1_any bp L r5 W5.heap.size vb 50 162 [.string ⟨nm.toArray⟩, .int .i64 0, .slice none 0 0, .slice none 0 0, .slice none 0 0, .slice none 0 0, .slice none 0 0, .int .i64 (at_ : Nat)] _ (A5.out.kept (E := fun _ => False) ((Kp.refl _ _).alloc _) (fun _ h => h.elim)) (V5.out.alloc _) (by omega) (by have := V5.out.lt; omega) (by have := A5.out.lt; omega) 1 (by simp) (Blk.new W5 _ [.pointer (some ⟨vb, 1, none⟩)])).mono ?_
 rintro e W6 (⟨hh, r6, h6, ⟨rfl, v6⟩, a6, k6⟩ | ⟨r6, h6, rfl, k6⟩)
 rotate_left
 ·have KK := hid ((K5.out.alloc _).call k6 (fun k hk => hk.elim (fun h => Or.inl h) (fun h => Or.inr (by have : k = vb := h; omega)))); have HB := hid h6
  clear h6 k6
  unfold failP
  go_wp2
  refine ⟨rfl, gives_bad _ ?_ KK.out⟩
  show levelP ts = _
  unfold levelP
  rw [then_of H1.out, then_of H3.out, then_of H5.out, then_bad HB.out]
 have P6 := hid ((P5.out.alloc (.cells #[.pointer (some ⟨vb, 1, none⟩)] 162)).kept k6 (fun h => h.elim (fun h => by have : w.heap.size = bp := h; omega) (fun h => by have : w.heap.size = vb := h; omega)))
 have R6 := hid ((R5.out.alloc (.cells #[.pointer (some ⟨vb, 1, none⟩)] 162)).kept k6 (fun h => h.elim (fun h => by have : (w.heap.size + 1) = bp := h; omega) (fun h => by have : (w.heap.size + 1) = vb := h; omega)))
 have V6 : Hid (Blk W6 vb 50 [.string ⟨nm.toArray⟩, .int .i64 (hh : Nat), .slice none 0 0, .slice none 0 0, .slice none 0 0, .slice none 0 0, .slice none 0 0, .int .i64 (at_ : Nat)]) := hid v6
 have K6 := hid ((K5.out.alloc _).call k6 (fun k hk => hk.elim (fun h => Or.inl h) (fun h => Or.inr (by have : k = vb := h; omega)))); have A6 := hid a6; have H6 := hid h6
 have hs6 : W5.heap.size ≤ W6.heap.size := Nat.le_trans (by simp) k6.size
 clear h6 a6 k6 v6 cP0 P5 R5 V5 K5 A5
 have cP0 := P6.out.cell (i := 0) rfl
 go_wp2_with fail
 refine (word_any bp L r6 wOpen _ A6.out).mono ?_
 rintro e W7 (⟨x3, r7, h7, rfl, a7, k7⟩ | ⟨r7, h7, rfl, k7⟩)
 rotate_left
 ·have KK := hid (K6.out.trans k7); have HB := hid h7
  clear h7 k7
  unfold failP
  go_wp2
  refine ⟨rfl, gives_bad _ ?_ KK.out⟩
  show levelP ts = _
  unfold levelP
  rw [then_of H1.out, then_of H3.out, then_of H5.out, then_of H6.out, then_bad HB.out]
 have P7 := hid (P6.out.kept k7 (fun h => by have : w.heap.size = bp := h; omega))
 have R7 := hid (R6.out.kept k7 (fun h => by have : (w.heap.size + 1) = bp := h; omega))
 have V7 := hid (V6.out.kept k7 (fun h => by have : vb = bp := h; omega))
 have K7 := hid (K6.out.trans k7); have A7 := hid a7; have H7 := hid h7; have hs7 := k7.size
 clear h7 a7 k7 cP0 P6 R6 V6 K6 A6
 have cP := P7.out.cell (i := 0) rfl
 go_wp2_with fail
 refine (itemsOf_any bp vb W7).mono ?_
 rintro e W8 ⟨rfl, k8, p8, l8, m8, z8⟩
 have P8 := hid (P7.out.kept k8 (fun h => h)); have R8 := hid (R7.out.kept k8 (fun h => h)); have V8 := hid (V7.out.kept k8 (fun h => h))
 have K8 := hid (K7.out.call k8 (fun _ h => h.elim)); have A8 := hid (A7.out.kept k8 (fun _ h => h.elim))
 have Q8 := hid p8; have D8 := hid l8
 have hql := A7.out.lt; have hqv := V7.out.lt
 clear p8 l8 k8 cP P7 R7 V7 K7 A7
 go_upto_region 7 with fail
 have mm := m8.kept (E := fun _ => False) ((Kp.refl _ _).alloc (.cells #[.map (some (W7.heap.size + 2))] 191)) (fun h => h)
 clear m8
 have I9 := Blk.new W8 191 [.map (some (W7.heap.size + 2))]
 have P9 := P8.out.alloc (.cells #[.map (some (W7.heap.size + 2))] 191)
 have R9 := R8.out.alloc (.cells #[.map (some (W7.heap.size + 2))] 191)
 have V9 := V8.out.alloc (.cells #[.map (some (W7.heap.size + 2))] 191)
 have Q9 := Q8.out.alloc (.cells #[.map (some (W7.heap.size + 2))] 191)
 have D9 := D8.out.alloc (.cells #[.map (some (W7.heap.size + 2))] 191)
 have K9 := K8.out.alloc (.cells #[.map (some (W7.heap.size + 2))] 191)
 have A9 := A8.out.kept (E := fun _ => False) ((Kp.refl _ _).alloc (.cells #[.map (some (W7.heap.size + 2))] 191)) (fun _ h => h.elim)
 have hs9 : W8.heap.size < (W8.alloc (.cells #[.map (some (W7.heap.size + 2))] 191)).heap.size := by simp
 generalize W8.alloc (.cells #[.map (some (W7.heap.size + 2))] 191) = W9 at *
 generalize W8.heap.size = ib at *
 have P9 := hid P9
 have R9 := hid R9
 have V9 := hid V9
 have Q9 := hid Q9
 have D9 := hid D9
 have I9 := hid I9
 have K9 := hid K9; have A9 := hid A9
 clear P8 R8 V8 Q8 D8 K8 A8
 have MM := hid mm
 clear mm
 have hln : r7.length ≤ 5000 := by
   have l0 := shrink (det_word _) H1.out
   have l1 := shrink det_name H3.out
   have l2 := shrink (det_word _) H5.out
   have l3 := shrink det_num H6.out
   have l4 := shrink (det_word _) H7.out
   omega
 have hpl := P9.out.lt; have hvl := V9.out.lt; have hbl := A9.out.lt; have hil := I9.out.lt; have hdl := D9.out.lt; have hqq := Q9.out.lt
 have cP := P9.out.cell (i := 0) rfl
 have st0 : LvSt W9 vb W9.heap.size (.string ⟨nm.toArray⟩) (.int .i64 (hh : Nat)) (.int .i64 (at_ : Nat)) (.slice none 0 0) (.slice none 0 0) (.slice none 0 0) (.slice none 0 0) (.slice none 0 0) [] :=
  ⟨V9.out, building_nil _ _ _ _ _, building_nil _ _ _ _ _, building_nil _ _ _ _ _, building_nil _ _ _ _ _, building_nil _ _ _ _ _, by unfold Apart; simp [Value.ownBlock]⟩
 have ST0 := hid st0
 clear st0
 go_wp2_with fail
 refine (until_any bp L wClose itemP eats_item 117 levelC_ent #[.pointer (some ⟨w.heap.size, 0, none⟩), .pointer (some ⟨ib, 0, none⟩)]
  (fun is W => ∃ v1 v2 v3 v4 v5, LvSt W vb W9.heap.size (.string ⟨nm.toArray⟩) (.int .i64 (hh : Nat)) (.int .i64 (at_ : Nat)) v1 v2 v3 v4 v5 is ∧ Kp (fun k => k = bp ∨ k = vb ∨ W9.heap.size ≤ k) W9 W)
  (fun W => Kp (fun k => k = bp ∨ k = vb ∨ W9.heap.size ≤ k) W9 W) ?keep ?fin 5000 ?step fuel r7 (by unfold fuel; omega) [] (by simpa using hln) W9 ⟨_, _, _, _, _, ST0.out, Kp.refl _ _⟩ A9.out).mono ?_
 case keep =>
  rintro is W W' ⟨v1, v2, v3, v4, v5, h1, h3⟩ hk
  exact ⟨v1, v2, v3, v4, v5, h1.kept hk (fun k hk => by have : k = bp := hk; omega), h3.call hk (fun k h => Or.inl (Or.inl h))⟩
 case fin =>
  rintro is W W' ⟨v1, v2, v3, v4, v5, h1, h3⟩ hk
  exact h3.call hk (fun k h => Or.inl (Or.inl h))
 case step =>
  rintro is W us ⟨v1, v2, v3, v4, v5, h1, h3⟩ hA hN
  refine (levelC_any bp L vb w.heap.size ib (W7.heap.size + 2) (W7.heap.size + 1) W7.heap.size W9.heap.size us (.string ⟨nm.toArray⟩) (.int .i64 (hh : Nat)) (.int .i64 (at_ : Nat)) v1 v2 v3 v4 v5 is W hA h1 (P9.out.kept h3 (fun h => by omega)) (I9.out.kept h3 (fun h => by omega)) (MM.out.kept h3 (fun h => by omega)) (D9.out.kept h3 (fun h => by omega)) (Q9.out.kept h3 (fun h => by omega)) h3.size
   (by omega) (by omega) (by omega) (by omega) (by omega) (by omega) (by omega) (by omega) (by omega) (by omega) (by omega) (by omega)).mono ?_
  rintro e W2 (⟨m, q, k1, rfl, ⟨v1', v2', v3', v4', v5', k2⟩, k4, k5⟩ | ⟨q, k1, rfl, k5⟩)
  ·exact Or.inl ⟨m, q, k1, rfl, ⟨_, _, _, _, _, k2, h3.trans k5⟩, k4⟩
  ·exact Or.inr ⟨q, k1, rfl, h3.trans k5⟩
 rintro e W10 (⟨is, r10, h10, rfl, ⟨v1, v2, v3, v4, v5, b10, k10⟩, a10⟩ | ⟨r10, h10, rfl, k10⟩)
 rotate_left
 ·have KK := hid (K9.out.call k10 (fun k hk => by rcases hk with h | h | h; exact Or.inl h; exact Or.inr (by omega); exact Or.inr (by omega))); have HB := hid h10
  clear h10 k10
  unfold failP
  go_wp2
  refine ⟨rfl, gives_bad _ ?_ KK.out⟩
  show levelP ts = _
  unfold levelP
  rw [then_of H1.out, then_of H3.out, then_of H5.out, then_of H6.out, then_of H7.out, then_bad HB.out]
 obtain ⟨a1, n1, d1, rfl⟩ := b10.b1.slice
 obtain ⟨a2, n2, d2, rfl⟩ := b10.b2.slice
 obtain ⟨a3, n3, d3, rfl⟩ := b10.b3.slice
 obtain ⟨a4, n4, d4, rfl⟩ := b10.b4.slice
 obtain ⟨a5, n5, d5, rfl⟩ := b10.b5.slice
 have V10 := hid b10.blk; have R10 := hid (R9.out.kept k10 (fun h => by omega))
 have K10 := hid (K9.out.call k10 (fun k hk => by rcases hk with h | h | h; exact Or.inl h; exact Or.inr (by omega); exact Or.inr (by omega))); have A10 := hid a10; have H10 := hid h10; have HBU := hid b10; have hs10 := k10.size
 clear h10 a10 k10 b10 cP hln P9 R9 V9 K9 A9 I9 D9 Q9 MM ST0
 have x0 := V10.out.cell (i := 0) rfl
 have x1 := V10.out.cell (i := 1) rfl
 have x2 := V10.out.cell (i := 2) rfl
 have x3 := V10.out.cell (i := 3) rfl
 have x4 := V10.out.cell (i := 4) rfl
 have x5 := V10.out.cell (i := 5) rfl
 have x6 := V10.out.cell (i := 6) rfl
 have x7 := V10.out.cell (i := 7) rfl
 have z0 := R10.out.cell (i := 0) rfl
 have z1 := R10.out.cell (i := 1) rfl
 have z2 := R10.out.cell (i := 2) rfl
 have z3 := R10.out.cell (i := 3) rfl
 have z4 := R10.out.cell (i := 4) rfl
 have z5 := R10.out.cell (i := 5) rfl
 have z6 := R10.out.cell (i := 6) rfl
 have z7 := R10.out.cell (i := 7) rfl
 have zf := R10.out.free
 go_wp2
 rw [setCells_eight]
 refine bodyPost_ret (results_cell_mid rfl _ _ ((w.heap.size + 1)) [.string ⟨nm.toArray⟩, .int .i64 (hh : Nat), .slice a1 n1 d1, .slice a2 n2 d2, .slice a3 n3 d3, .slice a4 n4 d4, .slice a5 n5 d5, .int .i64 (at_ : Nat)] _ rfl (R10.out.whole (vs := [.string ⟨nm.toArray⟩, .int .i64 (hh : Nat), .slice a1 n1 d1, .slice a2 n2 d2, .slice a3 n3 d3, .slice a4 n4 d4, .slice a5 n5 d5, .int .i64 (at_ : Nat)]) rfl).range Tryz.underlying50 rfl (by kernel_rfl)) rfl ?_
 refine gives_ok (levelOf nm hh is at_) r10 ?_ ?_ (A10.out.result (by omega) _) (K10.out.result (by omega) _)
 ·show levelP ts = _
  unfold levelP
  rw [then_of H1.out, then_of H3.out, then_of H5.out, then_of H6.out, then_of H7.out, then_of H10.out]
  rfl
 ·exact ⟨_, rfl, _, _, _, _, _, HBU.out.result (by omega) (by omega) _⟩
end Go.Proofs.YtilfpnkcgjonhaaGreatDoor.Pl
namespace Go.Proofs.YtilfpnkcgjonhaaGreatDoor.Pl
open Go.RowKit Go.Sort Go.Shelf Foyer.Plan Foyer.Round
theorem hallC_ent (args : Array Value) (w : World) : (callFunc 89 args).run Tryz.prog w = .ok (.enter 89 args) w := enters_of Tryz.func89 (by kernel_rfl) rfl args w
theorem hallC_info : (Tryz.prog.info? 50).map (fun i => (i.zero, i.size, i.bytes)) = some (some (.agg #[.string ⟨#[]⟩, .int .i64 0, .slice none 0 0, .slice none 0 0, .slice none 0 0, .slice none 0 0, .slice none 0 0, .int .i64 0]), levelK.size, 152) := by kernel_rfl
set_option linter.unusedSimpArgs false in
set_option maxRecDepth 100000 in
set_option maxHeartbeats 2000000 in
theorem hallC_any (bp L vb pb base : Nat) (ts : List TokP) (nm x y v : Value) (ms : List LevelP) (w : World) (hA : At w bp L ts) (hV : Blk w vb 26 [nm, x, y, v]) (hP : Blk w pb 123 [.pointer (some ⟨bp, 0, none⟩)])
  (hB : Building levelK w (fun k => base ≤ k ∧ v.ownBlock ≠ some k) base 50 v ms) (hbw : base ≤ w.heap.size) (hvb : vb < base) (hpb : pb < base) (hbp : bp < base) (hbv : bp < vb) (hbpb : bp ≠ pb) (hlen : ms.length + 1 ≤ 1000000) (hts : ts.length ≤ 5000) :
  Calls Tryz.prog 89 #[.pointer (some ⟨vb, 0, none⟩), .pointer (some ⟨pb, 0, none⟩)] w fun e w' =>
   (∃ m r, levelP ts = .ok m r ∧ e = .returned (.tuple #[]) ∧ (∃ v', Blk w' vb 26 [nm, x, y, v'] ∧ Building levelK w' (fun k => base ≤ k ∧ v'.ownBlock ≠ some k) base 50 v' (ms ++ [m])) ∧ At w' bp L r ∧ Kp (fun k => k = bp ∨ k = vb ∨ base ≤ k) w w') ∨ ∃ r, levelP ts = .bad r ∧ e = failP r L ∧ Kp (fun k => k = bp ∨ k = vb ∨ base ≤ k) w w' := by
 have HA := hid hA; have HB := hid hB; have HV := hid hV; have HP := hid hP
 clear hA hB hV hP
 go_enter Tryz.func89, Tryz.ntmps89
 refine wp_region_any (by kernel_rfl) ?_
 have hS0 : Blk w.drew vb 26 [nm, x, y, v] ∧ Blk w.drew pb 123 [.pointer (some ⟨bp, 0, none⟩)] := ⟨HV.out, HP.out⟩
 have hA0 : At w.drew bp L ts := HA.out.kept (E := fun _ => False) (Kp.refl _ _).drew (fun _ h => h.elim)
 have hK0 : Kp (fun k => k = bp ∨ k = vb ∨ base ≤ k) w w.drew := (Kp.refl _ _).drew
 have hB0 : Building levelK w.drew (fun k => base ≤ k ∧ v.ownBlock ≠ some k) base 50 v ms := HB.out.kept (fun _ _ => rfl) (fun _ _ _ => rfl) (fun _ h _ => h)
 have hz0 : base ≤ w.drew.heap.size := hbw
 refine any_of_held (S := fun W => Blk W vb 26 [nm, x, y, v] ∧ Blk W pb 123 [.pointer (some ⟨bp, 0, none⟩)]) (N := [5, 6, 7]) _ _ _ _ ?_
 change held _ _ _ _ _ _ _ _ _ w.drew
 obtain ⟨wa, hwa⟩ : ∃ wa, w.drew = wa := ⟨_, rfl⟩
 rw [hwa] at hS0 hA0 hK0 hB0 hz0 ⊢
 have HK0 := hid hK0; have HA0 := hid hA0; have HB0 := hid hB0
 clear hK0 hA0 hB0 hwa HA HB HV HP
 refine held_take [1, 5, 6, 7] (i := 0) (v := .pointer (some ⟨vb, 3, none⟩)) rfl (by kernel_rfl) (fun _ _ _ h => h) (Or.inl ⟨by rfl, fun w' hS => by go_simp⟩) hS0 ?_
 try simp only [Act.put, aA, aB, aC]
 refine held_take [5, 6, 7] (i := 1) (v := v) rfl (by kernel_rfl) (fun _ _ _ h => h) (Or.inl ⟨by rfl, fun w' hS => by have hc := hS.1.cell (i := 3) rfl; go_simp⟩) hS0 ?_
 try simp only [Act.put, aA, aB, aC]
 refine held_take [3, 4, 5, 6, 7] (i := 2) (v := .pointer (some ⟨bp, 0, none⟩)) rfl (by kernel_rfl) (fun _ _ _ h => h) (Or.inl ⟨by rfl, fun w' hS => by have hc := hS.2.cell (i := 0) rfl; go_simp⟩) hS0 ?_
 try simp only [Act.put, aA, aB, aC]
 refine held_one (i := 3) rfl (by kernel_rfl) (fun K hK => ?_)
 go_simp
 refine (level_any bp L ts wa hts HA0.out).mono ?_
 rintro e W1 (⟨m, r, h1, ⟨c, rfl, hc⟩, a1, k1⟩ | ⟨r, h1, rfl, k1⟩)
 rotate_left
 ·unfold failP
  exact ⟨rfl, Or.inr ⟨r, h1, rfl, HK0.out.call k1 (fun k hk => Or.inl (Or.inl hk))⟩⟩
 have hS1 : Blk W1 vb 26 [nm, x, y, v] ∧ Blk W1 pb 123 [.pointer (some ⟨bp, 0, none⟩)] := ⟨hS0.1.kept k1 (fun h => by have : vb = bp := h; omega), hS0.2.kept k1 (fun h => hbpb h.symm)⟩
 have hz1' : base ≤ W1.heap.size := Nat.le_trans hz0 k1.size
 have hb1 : Building levelK W1 (fun k => base ≤ k ∧ v.ownBlock ≠ some k) base 50 v ms := HB0.out.kept (fun k hk => k1.block k (HB0.out.lt hk).2 (fun h => by have h2 := (HB0.out.lt hk).1; have : k = bp := h; omega)) (fun k hk hlt => k1.block k hlt (fun h => by have h2 := hk.1; have : k = bp := h; omega)) (fun _ h _ => h)
 have hsz1 := k1.size
 have hown : ∀ k, v.ownBlock = some k → k < wa.heap.size := fun k hk => (HB0.out.lt hk).2
 have K1 := hid (HK0.out.call k1 (fun k hk => Or.inl (Or.inl hk))); have A1 := hid a1; have H1 := hid h1; have HB1 := hid hb1; have HOW := hid hown
 clear a1 k1 h1 hb1 hown HB0 HK0 HA0
 obtain ⟨v1, v2, v3, v4, v5, hl0⟩ := hc
 obtain rfl := hl0.cells
 obtain ⟨a1, n1, c1, rfl⟩ := hl0.blocks.slice
 obtain ⟨a2, n2, c2, rfl⟩ := hl0.areas.slice
 obtain ⟨a3, n3, c3, rfl⟩ := hl0.aisles.slice
 obtain ⟨a4, n4, c4, rfl⟩ := hl0.pillars.slice
 obtain ⟨a5, n5, c5, rfl⟩ := hl0.doors.slice
 unfold levelCl
 have hc : levelK.is W1 (fun k => wa.heap.size ≤ k) (levelCl m (.slice a1 n1 c1) (.slice a2 n2 c2) (.slice a3 n3 c3) (.slice a4 n4 c4) (.slice a5 n5 c5)) m := ⟨_, _, _, _, _, hl0⟩
 clear hl0
 refine hK.out _ _ (fun _ => hS1) ?_
 clear hK K
 try simp only [Act.put, aA, aB, aC]
 refine held_one (i := 4) rfl (by kernel_rfl) (fun K hK => ?_)
 go_simp
 refine hK.out _ _ (fun _ => ⟨hS1.1.alloc _, hS1.2.alloc _⟩) ?_
 clear hK K
 try simp only [Act.put, aA, aB, aC]
 refine held_one (i := 5) rfl (by kernel_rfl) (fun K hK => ?_)
 rw [if_pos (by kernel_rfl)]
 obtain ⟨i0, hi, hz0', hz1, hz2⟩ := info_parts hallC_info
 obtain ⟨css, hcon, hall⟩ := HB1.out
 refine con_append (t := 24) (T := 50) (m := levelK.size) (B := base) Tryz.underlying24 hi hz0' hz1 hz2 rfl (by decide) (by decide) (.tmp 3) (.tmp 6) rfl v css (levelCl m (.slice a1 n1 c1) (.slice a2 n2 c2) (.slice a3 n3 c3) (.slice a4 n4 c4) (.slice a5 n5 c5)) rfl (hcon.of_block (fun k hk => Below.heap_alloc _ _ _ (by have := HOW.out k hk; omega))) W1.heap.size rfl (Blk.new W1 50 (levelCl m (.slice a1 n1 c1) (.slice a2 n2 c2) (.slice a3 n3 c3) (.slice a4 n4 c4) (.slice a5 n5 c5))) (levelK.len hc) (levelK.one hc) (by rw [All2.length hall]; exact hlen) (by rw [World.size_alloc]; omega) ?_
 intro v' W2 hcon' hg hat hone
 obtain ⟨g, cap, cur, rfl, hgb, hgl, _⟩ : ∃ g cap cur, v' = .slice (some ⟨g, 0, none⟩) (css ++ [(levelCl m (.slice a1 n1 c1) (.slice a2 n2 c2) (.slice a3 n3 c3) (.slice a4 n4 c4) (.slice a5 n5 c5))]).length cap ∧ base ≤ g ∧ g < W2.heap.size ∧ W2.heap[g]? = some (.cells cur 50 (0, 0)) := by
  rcases hcon'.form with ⟨_, h⟩ | ⟨g, cap, cur, h1, h2, h3, h4, _⟩
  ·simp at h
  ·exact ⟨g, cap, cur, h1, h2, h3, h4⟩
 have hgr : ∀ k, k < W1.heap.size → v.ownBlock ≠ some k → W2.heap[k]? = W1.heap[k]? := fun k hk hn => (hg.block k (by rw [World.size_alloc]; omega) (fun h => hn h.symm)).trans (Below.heap_alloc _ _ _ hk)
 have hnv : v.ownBlock ≠ some vb := fun h => by have := (own_lt hcon.own h).1; omega
 have hnp : v.ownBlock ≠ some pb := fun h => by have := (own_lt hcon.own h).1; omega
 have hnb : v.ownBlock ≠ some bp := fun h => by have := (own_lt hcon.own h).1; omega
 have hS2 : Blk W2 vb 26 [nm, x, y, v] := (hgr vb (by omega) hnv).trans hS1.1
 have K2 : Kp (fun k => k = bp ∨ k = vb ∨ base ≤ k) w W2 := (K1.out.alloc (.cells ((levelCl m (.slice a1 n1 c1) (.slice a2 n2 c2) (.slice a3 n3 c3) (.slice a4 n4 c4) (.slice a5 n5 c5))).toArray 50)).grown hg (fun k hk => Or.inl (Or.inr (Or.inr (own_lt hcon.own hk).1)))
 have A2 : At W2 bp L r := A1.out.kept (E := fun k => base ≤ k) (((Kp.refl _ W1).alloc (.cells ((levelCl m (.slice a1 n1 c1) (.slice a2 n2 c2) (.slice a3 n3 c3) (.slice a4 n4 c4) (.slice a5 n5 c5))).toArray 50)).grown hg (fun k hk => Or.inl (own_lt hcon.own hk).1)) (fun k hk => by have : base ≤ k := hk; omega)
 have hg' : v.ownBlock = some g ∨ g = W1.heap.size + 1 := by
  rcases hat with h | h
  ·exact Or.inl h.symm
  ·exact Or.inr (by simpa [Value.ownBlock] using h)
 have hall2 : All2 (levelK.is W2 (fun k => base ≤ k ∧ (Value.slice (some ⟨g, 0, none⟩) (css ++ [(levelCl m (.slice a1 n1 c1) (.slice a2 n2 c2) (.slice a3 n3 c3) (.slice a4 n4 c4) (.slice a5 n5 c5))]).length cap).ownBlock ≠ some k)) (css ++ [(levelCl m (.slice a1 n1 c1) (.slice a2 n2 c2) (.slice a3 n3 c3) (.slice a4 n4 c4) (.slice a5 n5 c5))]) (ms ++ [m]) := by
  refine All2.snoc (All2.imp hall fun b x h => levelK.moved h (fun k hk hlt => hgr k hlt hk.2) (fun k hk hlt => ⟨hk.1, fun e => ?_⟩)) (levelK.moved hc (fun k hk hlt => hgr k hlt (fun e => by have := HOW.out k e; have : wa.heap.size ≤ k := hk; omega)) (fun k hk hlt => ⟨by have : wa.heap.size ≤ k := hk; omega, fun e => ?_⟩))
  ·have e' : g = k := by simpa [Value.ownBlock] using e
   subst e'
   rcases hg' with h | h
   ·have := HOW.out g h; have : wa.heap.size ≤ g := hk; omega
   ·omega
  ·have e' : g = k := by simpa [Value.ownBlock] using e
   subst e'
   rcases hg' with h | h
   ·exact hk.2 h
   ·omega
 have HS2 := hid hS2; have HK2 := hid K2; have HA2 := hid A2; have HC2 := hid hcon'; have HALL := hid hall2
 have hc2 := hS2.cell (i := 3) rfl
 have hf2 := hS2.free 3
 clear hS2 K2 A2 hcon' hall2 hgr hg hat hg' hcon hall hc hS0 hS1
 generalize (css ++ [(levelCl m (.slice a1 n1 c1) (.slice a2 n2 c2) (.slice a3 n3 c3) (.slice a4 n4 c4) (.slice a5 n5 c5))]).length = n2 at *
 refine hK.out _ _ (fun h => absurd (by decide) h) ?_
 clear hK K
 try simp only [Act.put, aA, aB, aC]
 refine held_one (i := 6) rfl (by kernel_rfl) (fun K hK => ?_)
 go_simp
 refine hK.out _ _ (fun h => absurd (by decide) h) ?_
 clear hK K
 try simp only [Act.put, aA, aB, aC]
 refine held_one (i := 7) rfl (by kernel_rfl) (fun K hK => ?_)
 go_simp
 refine hK.out _ _ (fun h => absurd (by decide) h) ?_
 clear hK K
 try simp only [Act.put, aA, aB, aC]
 refine held_done (by kernel_rfl) ?_ _
 go_end0
 refine Or.inl ⟨m, r, H1.out, rfl, ⟨_, HS2.out.set 3 (.slice (some ⟨g, 0, none⟩) n2 cap), ?_⟩, ?_, HK2.out.setOld vb 3 (Or.inr (Or.inl rfl)) _⟩
 rotate_left
 ·exact HA2.out.kept (E := onlyB vb) ((Kp.refl (onlyB vb) W2).setOld vb 3 rfl _) (fun k hk => by have : k = vb := hk; omega)
 have hne : ∀ k, base ≤ k → (W2.setCell ⟨vb, 3, none⟩ (.slice (some ⟨g, 0, none⟩) n2 cap)).heap[k]? = W2.heap[k]? := fun k hk => Below.heap_setCell _ _ _ _ (by show k ≠ vb; omega)
 have hbu : Building levelK W2 (fun k => base ≤ k ∧ (Value.slice (some ⟨g, 0, none⟩) n2 cap).ownBlock ≠ some k) base 50 (.slice (some ⟨g, 0, none⟩) n2 cap) (ms ++ [m]) := ⟨_, HC2.out, HALL.out⟩
 exact hbu.kept (fun k hk => hne k (own_lt HC2.out.own hk).1) (fun k hk _ => hne k hk.1) (fun _ h _ => h)
set_option maxRecDepth 100000 in
set_option maxHeartbeats 4000000 in
theorem hall_any (bp L : Nat) (ts : List TokP) (w : World) (hts : ts.length ≤ 5000) (h : At w bp L ts) : Calls Tryz.prog 57 #[.pointer (some ⟨bp, 0, none⟩)] w (Gives bp L (onlyB bp) w (hallP ts) (KindV hallK w.heap.size)) := by
 have hlt := h.lt
 have hmf := makes_func
 have P0 := (Blk.new w 123 [.pointer (some ⟨bp, 0, none⟩)]).alloc (.cells #[.string ⟨#[]⟩, .int .i64 0, .int .i64 0, .slice none 0 0] 26)
 have R0 := Blk.new (w.alloc (.cells #[.pointer (some ⟨bp, 0, none⟩)] 123)) 26 [.string ⟨#[]⟩, .int .i64 0, .int .i64 0, .slice none 0 0]
 rw [show (w.alloc (.cells #[.pointer (some ⟨bp, 0, none⟩)] 123)).heap.size = w.heap.size + 1 by simp] at R0
 have K0 : Kp (onlyB bp) w ((w.alloc (.cells #[.pointer (some ⟨bp, 0, none⟩)] 123)).alloc (.cells #[.string ⟨#[]⟩, .int .i64 0, .int .i64 0, .slice none 0 0] 26)) := ((Kp.refl _ _).alloc _).alloc _
 have A0 := h.kept (E := fun _ => False) (((Kp.refl _ w).alloc (.cells #[.pointer (some ⟨bp, 0, none⟩)] 123)).alloc (.cells #[.string ⟨#[]⟩, .int .i64 0, .int .i64 0, .slice none 0 0] 26)) (fun _ h => h.elim)
 have hs0 : w.heap.size + 2 ≤ ((w.alloc (.cells #[.pointer (some ⟨bp, 0, none⟩)] 123)).alloc (.cells #[.string ⟨#[]⟩, .int .i64 0, .int .i64 0, .slice none 0 0] 26)).heap.size := by simp
 clear h
 go_enter Tryz.func57, Tryz.ntmps57
 go_upto_region 1 with fail
 generalize (w.alloc (.cells #[.pointer (some ⟨bp, 0, none⟩)] 123)).alloc (.cells #[.string ⟨#[]⟩, .int .i64 0, .int .i64 0, .slice none 0 0] 26) = W0 at *
 have P0 := hid P0; have R0 := hid R0; have K0 := hid K0; have A0 := hid A0
 have cP0 := P0.out.cell (i := 0) rfl
 go_wp2_with fail
 refine (word_any bp L ts wHall _ A0.out).mono ?_
 rintro e W1 (⟨x1, r1, h1, rfl, a1, k1⟩ | ⟨r1, h1, rfl, k1⟩)
 rotate_left
 ·have KK := hid (K0.out.trans k1); have HB := hid h1
  clear h1 k1
  unfold failP
  go_wp2
  refine ⟨rfl, gives_bad _ ?_ KK.out⟩
  show hallP ts = _
  unfold hallP
  rw [then_bad HB.out]
 have P1 := hid (P0.out.kept k1 (fun h => by have : w.heap.size = bp := h; omega))
 have R1 := hid (R0.out.kept k1 (fun h => by have : (w.heap.size + 1) = bp := h; omega))
 have K1 := hid (K0.out.trans k1); have A1 := hid a1; have H1 := hid h1; have hs1 := k1.size
 clear h1 a1 k1 cP0 P0 R0 K0 A0
 have cP0 := P1.out.cell (i := 0) rfl
 go_wp2_with fail
 refine (name_any bp L r1 _ A1.out).mono ?_
 rintro e W2 (⟨nm, r2, h2, rfl, a2, k2⟩ | ⟨r2, h2, rfl, k2⟩)
 rotate_left
 ·have KK := hid (K1.out.trans k2); have HB := hid h2
  clear h2 k2
  unfold failP
  go_wp2
  refine ⟨rfl, gives_bad _ ?_ KK.out⟩
  show hallP ts = _
  unfold hallP
  rw [then_of H1.out, then_bad HB.out]
 have P2 := hid (P1.out.kept k2 (fun h => by have : w.heap.size = bp := h; omega))
 have R2 := hid (R1.out.kept k2 (fun h => by have : (w.heap.size + 1) = bp := h; omega))
 have K2 := hid (K1.out.trans k2); have A2 := hid a2; have H2 := hid h2; have hs2 := k2.size
 clear h2 a2 k2 cP0 P1 R1 K1 A1
 go_upto_region 3 with fail
 have V3 := Blk.new W2 26 [.string ⟨nm.toArray⟩, .int .i64 0, .int .i64 0, .slice none 0 0]
 have P3 := P2.out.alloc (.cells #[.string ⟨nm.toArray⟩, .int .i64 0, .int .i64 0, .slice none 0 0] 26)
 have R3 := R2.out.alloc (.cells #[.string ⟨nm.toArray⟩, .int .i64 0, .int .i64 0, .slice none 0 0] 26)
 have K3 := K2.out.alloc (.cells #[.string ⟨nm.toArray⟩, .int .i64 0, .int .i64 0, .slice none 0 0] 26)
 have A3 := A2.out.kept (E := fun _ => False) ((Kp.refl _ _).alloc (.cells #[.string ⟨nm.toArray⟩, .int .i64 0, .int .i64 0, .slice none 0 0] 26)) (fun _ h => h.elim)
 have hs3 : W2.heap.size < (W2.alloc (.cells #[.string ⟨nm.toArray⟩, .int .i64 0, .int .i64 0, .slice none 0 0] 26)).heap.size := by simp
 generalize W2.alloc (.cells #[.string ⟨nm.toArray⟩, .int .i64 0, .int .i64 0, .slice none 0 0] 26) = W3 at *
 generalize W2.heap.size = vb at *
 have P3 := hid P3
 have R3 := hid R3
 have V3 := hid V3
 have K3 := hid K3; have A3 := hid A3
 clear P2 R2 K2 A2
 have cP0 := P3.out.cell (i := 0) rfl
 go_wp2_with fail
 refine (word_any bp L r2 wStage _ A3.out).mono ?_
 rintro e W4 (⟨x2, r4, h4, rfl, a4, k4⟩ | ⟨r4, h4, rfl, k4⟩)
 rotate_left
 ·have KK := hid (K3.out.trans k4); have HB := hid h4
  clear h4 k4
  unfold failP
  go_wp2
  refine ⟨rfl, gives_bad _ ?_ KK.out⟩
  show hallP ts = _
  unfold hallP
  rw [then_of H1.out, then_of H2.out, then_bad HB.out]
 have P4 := hid (P3.out.kept k4 (fun h => by have : w.heap.size = bp := h; omega))
 have R4 := hid (R3.out.kept k4 (fun h => by have : (w.heap.size + 1) = bp := h; omega))
 have V4 := hid (V3.out.kept k4 (fun h => by have : vb = bp := h; omega))
 have K4 := hid (K3.out.trans k4); have A4 := hid a4; have H4 := hid h4; have hs4 := k4.size
 clear h4 a4 k4 cP0 P3 R3 V3 K3 A3
 have cP0 := P4.out.cell (i := 0) rfl
 go_wp2_with fail
 refine (numbers2_any bp L r4 W4.heap.size vb 26 162 [.string ⟨nm.toArray⟩, .int .i64 0, .int .i64 0, .slice none 0 0] _ (A4.out.kept (E := fun _ => False) ((Kp.refl _ _).alloc _) (fun _ h => h.elim)) (V4.out.alloc _) (by omega) (by have := V4.out.lt; omega) (by have := A4.out.lt; omega) 1 2 (by simp) (by simp) (Blk.new W4 _ [.pointer (some ⟨vb, 1, none⟩), .pointer (some ⟨vb, 2, none⟩)])).mono ?_
 rintro e W5 (⟨xy, r5, h5, ⟨rfl, v5⟩, a5, k5⟩ | ⟨r5, h5, rfl, k5⟩)
 rotate_left
 ·have KK := hid ((K4.out.alloc _).call k5 (fun k hk => hk.elim (fun h => Or.inl h) (fun h => Or.inr (by have : k = vb := h; omega)))); have HB := hid h5
  clear h5 k5
  unfold failP
  go_wp2
  refine ⟨rfl, gives_bad _ ?_ KK.out⟩
  show hallP ts = _
  unfold hallP
  rw [then_of H1.out, then_of H2.out, then_of H4.out, point_bad HB.out]
 have P5 := hid ((P4.out.alloc (.cells #[.pointer (some ⟨vb, 1, none⟩), .pointer (some ⟨vb, 2, none⟩)] 162)).kept k5 (fun h => h.elim (fun h => by have : w.heap.size = bp := h; omega) (fun h => by have : w.heap.size = vb := h; omega)))
 have R5 := hid ((R4.out.alloc (.cells #[.pointer (some ⟨vb, 1, none⟩), .pointer (some ⟨vb, 2, none⟩)] 162)).kept k5 (fun h => h.elim (fun h => by have : (w.heap.size + 1) = bp := h; omega) (fun h => by have : (w.heap.size + 1) = vb := h; omega)))
 have V5 : Hid (Blk W5 vb 26 [.string ⟨nm.toArray⟩, .int .i64 (xy.1 : Nat), .int .i64 (xy.2 : Nat), .slice none 0 0]) := hid v5
 have K5 := hid ((K4.out.alloc _).call k5 (fun k hk => hk.elim (fun h => Or.inl h) (fun h => Or.inr (by have : k = vb := h; omega)))); have A5 := hid a5; have H5 := hid h5
 have hs5 : W4.heap.size ≤ W5.heap.size := Nat.le_trans (by simp) k5.size
 clear h5 a5 k5 v5 cP0 P4 R4 V4 K4 A4
 have cP0 := P5.out.cell (i := 0) rfl
 go_wp2_with fail
 refine (word_any bp L r5 wOpen _ A5.out).mono ?_
 rintro e W6 (⟨x3, r6, h6, rfl, a6, k6⟩ | ⟨r6, h6, rfl, k6⟩)
 rotate_left
 ·have KK := hid (K5.out.trans k6); have HB := hid h6
  clear h6 k6
  unfold failP
  go_wp2
  refine ⟨rfl, gives_bad _ ?_ KK.out⟩
  show hallP ts = _
  unfold hallP
  rw [then_of H1.out, then_of H2.out, then_of H4.out, point_then H5.out, then_bad HB.out]
 have P6 := hid (P5.out.kept k6 (fun h => by have : w.heap.size = bp := h; omega))
 have R6 := hid (R5.out.kept k6 (fun h => by have : (w.heap.size + 1) = bp := h; omega))
 have V6 := hid (V5.out.kept k6 (fun h => by have : vb = bp := h; omega))
 have K6 := hid (K5.out.trans k6); have A6 := hid a6; have H6 := hid h6; have hs6 := k6.size
 clear h6 a6 k6 cP0 P5 R5 V5 K5 A5
 have hln : r6.length ≤ 5000 := by
   have l0 := shrink (det_word _) H1.out
   have l1 := shrink det_name H2.out
   have l2 := shrink (det_word _) H4.out
   have l3 := shrink det_point H5.out
   have l4 := shrink (det_word _) H6.out
   omega
 have hpl := P6.out.lt; have hvl := V6.out.lt; have hbl := A6.out.lt
 have cP := P6.out.cell (i := 0) rfl
 go_wp2_with fail
 refine (until_any bp L wClose levelP eats_level 89 hallC_ent #[.pointer (some ⟨vb, 0, none⟩), .pointer (some ⟨w.heap.size, 0, none⟩)]
  (fun ms W => ∃ v, Blk W vb 26 [.string ⟨nm.toArray⟩, .int .i64 (xy.1 : Nat), .int .i64 (xy.2 : Nat), v] ∧ Building levelK W (fun k => W6.heap.size ≤ k ∧ v.ownBlock ≠ some k) W6.heap.size 50 v ms ∧ Kp (fun k => k = bp ∨ k = vb ∨ W6.heap.size ≤ k) W6 W)
  (fun W => Kp (fun k => k = bp ∨ k = vb ∨ W6.heap.size ≤ k) W6 W) ?keep ?fin 5000 ?step fuel r6 (by unfold fuel; omega) [] (by simpa using hln) W6 ⟨_, V6.out, building_nil _ _ _ _ _, Kp.refl _ _⟩ A6.out).mono ?_
 case keep =>
  rintro ms W W' ⟨v, h1, h2, h3⟩ hk
  exact ⟨v, h1.kept hk (fun h => by have : vb = bp := h; omega), h2.kept (fun k hk' => hk.block k (h2.lt hk').2 (fun h => by have := (h2.lt hk').1; have : k = bp := h; omega)) (fun k hk' hlt => hk.block k hlt (fun h => by have := hk'.1; have : k = bp := h; omega)) (fun _ h _ => h), h3.call hk (fun k h => Or.inl (Or.inl h))⟩
 case fin =>
  rintro ms W W' ⟨v, h1, h2, h3⟩ hk
  exact h3.call hk (fun k h => Or.inl (Or.inl h))
 case step =>
  rintro ms W us ⟨v, h1, h2, h3⟩ hA hN
  refine (hallC_any bp L vb w.heap.size W6.heap.size us (.string ⟨nm.toArray⟩) (.int .i64 (xy.1 : Nat)) (.int .i64 (xy.2 : Nat)) v ms W hA h1 (P6.out.kept h3 (fun h => by omega)) h2 h3.size (by omega) (by omega) (by omega) (by omega) (by omega) (by omega) (by omega)).mono ?_
  rintro e W2 (⟨m, q, k1, rfl, ⟨v', k2, k3⟩, k4, k5⟩ | ⟨q, k1, rfl, k5⟩)
  ·exact Or.inl ⟨m, q, k1, rfl, ⟨v', k2, k3, h3.trans k5⟩, k4⟩
  ·exact Or.inr ⟨q, k1, rfl, h3.trans k5⟩
 rintro e W7 (⟨ls, r7, h7, rfl, ⟨v, v7, b7, k7⟩, a7⟩ | ⟨r7, h7, rfl, k7⟩)
 rotate_left
 ·have KK := hid (K6.out.call k7 (fun k hk => by rcases hk with h | h | h; exact Or.inl h; exact Or.inr (by omega); exact Or.inr (by omega))); have HB := hid h7
  clear h7 k7
  unfold failP
  go_wp2
  refine ⟨rfl, gives_bad _ ?_ KK.out⟩
  show hallP ts = _
  unfold hallP
  rw [then_of H1.out, then_of H2.out, then_of H4.out, point_then H5.out, then_of H6.out, then_bad HB.out]
 obtain ⟨sa, sn, sc, rfl⟩ := b7.slice
 have P7 := hid (P6.out.kept k7 (fun h => by omega))
 have R7 := hid (R6.out.kept k7 (fun h => by omega))
 have V7 := hid v7
 have K7 := hid (K6.out.call k7 (fun k hk => by rcases hk with h | h | h; exact Or.inl h; exact Or.inr (by omega); exact Or.inr (by omega))); have A7 := hid a7; have H7 := hid h7; have HBU := hid b7; have hs7 := k7.size
 clear h7 a7 k7 v7 b7 cP hln P6 R6 V6 K6 A6
 have x0 := V7.out.cell (i := 0) rfl
 have x1 := V7.out.cell (i := 1) rfl
 have x2 := V7.out.cell (i := 2) rfl
 have x3 := V7.out.cell (i := 3) rfl
 have z0 := R7.out.cell (i := 0) rfl
 have z1 := R7.out.cell (i := 1) rfl
 have z2 := R7.out.cell (i := 2) rfl
 have z3 := R7.out.cell (i := 3) rfl
 have zf := R7.out.free
 go_wp2
 rw [setCells_four]
 refine bodyPost_ret (results_cell_mid rfl _ _ ((w.heap.size + 1)) [.string ⟨nm.toArray⟩, .int .i64 (xy.1 : Nat), .int .i64 (xy.2 : Nat), .slice sa sn sc] _ rfl (R7.out.whole (vs := [.string ⟨nm.toArray⟩, .int .i64 (xy.1 : Nat), .int .i64 (xy.2 : Nat), .slice sa sn sc]) rfl).range Tryz.underlying26 rfl (by kernel_rfl)) rfl ?_
 refine gives_ok (⟨nm, xy.1, xy.2, ls⟩) r7 ?_ ?_ (A7.out.result (by omega) _) (K7.out.result (by omega) _)
 ·show hallP ts = _
  unfold hallP
  rw [then_of H1.out, then_of H2.out, then_of H4.out, point_then H5.out, then_of H6.out, then_of H7.out]
  rfl
 ·exact ⟨_, rfl, _, rfl, HBU.out.result (by omega) (by omega) _⟩
end Go.Proofs.YtilfpnkcgjonhaaGreatDoor.Pl
namespace Go.Proofs.YtilfpnkcgjonhaaGreatDoor.Pl
open Go.RowKit Go.Sort Go.Shelf Foyer.Plan Foyer.Round
theorem assert_nil (w : World) : (Instr.typeAssert .nilIface 20 121 true).run Tryz.prog w = .ok (.tuple #[.agg #[.int .i64 0, .int .i64 0], .bool false]) w := by kernel_rfl
theorem assert_failure (v : Value) (w : World) : (Instr.typeAssert (.iface 121 v) 20 121 true).run Tryz.prog w = .ok (.tuple #[v, .bool true]) w := by kernel_rfl
set_option maxRecDepth 100000 in
theorem parseC_idle (hb eb ab : Nat) (w : World) :
  CallsD Tryz.prog 56 #[.pointer (some ⟨hb, 0, none⟩), .pointer (some ⟨eb, 0, none⟩), .pointer (some ⟨ab, 0, none⟩)] .returning w fun e u' w' =>
   e = .returned (.tuple #[]) ∧ u' = .returning ∧ w' = w.alloc (.cells #[.int .i64 0, .int .i64 0] 121) := by
 have h1 := assert_nil
 refine callsD_of_wpS Tryz.func56 rfl fun c₀ cs hu => ?_
 apply wpS_seq
 apply wpS_region
 simp [wpOpsS, go_sem, recoverD, hu, Tryz.ntmps56, Exit.thenS, h1]
 apply wpS_seq
 apply wpS_region
 simp [wpOpsS, go_sem, Exit.thenS]
 refine wpS_cond (t := false) (by simp [Act.eval]) ?_
 simp only [Bool.false_eq_true, if_false]
 refine wpS_of_wp (wp_skip ?_)
 cases c₀
 simp_all [bodyPostS, results, Tryz.results56]
set_option linter.unusedSimpArgs false in
set_option maxRecDepth 100000 in
set_option maxHeartbeats 2000000 in
theorem parseC_failed (hb eb ab E A : Nat) (w : World) (c0 c1 c2 c3 d0 d1 : Value) (hh : Blk w hb 26 [c0, c1, c2, c3]) (he : Blk w eb 33 [d0]) (ha : Blk w ab 3 [d1]) (h12 : hb < eb) (h23 : eb < ab) :
  CallsD Tryz.prog 56 #[.pointer (some ⟨hb, 0, none⟩), .pointer (some ⟨eb, 0, none⟩), .pointer (some ⟨ab, 0, none⟩)] (.panicking [{ v := .iface 121 (.agg #[.int .i64 (E : Nat), .int .i64 (A : Nat)]), recovered := false }]) w fun e u' w' =>
   e = .returned (.tuple #[]) ∧ u' = .panicking [{ v := .iface 121 (.agg #[.int .i64 (E : Nat), .int .i64 (A : Nat)]), recovered := true }] ∧
    Blk w' hb 26 [.string ⟨#[]⟩, .int .i64 0, .int .i64 0, .slice none 0 0] ∧ Blk w' eb 33 [.int .i64 (E : Nat)] ∧ Blk w' ab 3 [.int .i64 (A : Nat)] ∧ Kp (fun k => k = hb ∨ k = eb ∨ k = ab) w w' := by
 have h1 := assert_failure
 refine callsD_of_wpS Tryz.func56 rfl fun c₀ cs hu => ?_
 apply wpS_seq
 apply wpS_region
 simp [wpOpsS, go_sem, recoverD, hu, Tryz.ntmps56, Exit.thenS, h1]
 have hh2 := hh.alloc (.cells #[.int .i64 (E : Nat), .int .i64 (A : Nat)] 121)
 have he2 := he.alloc (.cells #[.int .i64 (E : Nat), .int .i64 (A : Nat)] 121)
 have ha2 := ha.alloc (.cells #[.int .i64 (E : Nat), .int .i64 (A : Nat)] 121)
 have hx2 := Blk.new w 121 [.int .i64 (E : Nat), .int .i64 (A : Nat)]
 have hk2 := (Kp.refl (fun k => k = hb ∨ k = eb ∨ k = ab) w).alloc (.cells #[.int .i64 (E : Nat), .int .i64 (A : Nat)] 121)
 apply wpS_seq
 apply wpS_region
 simp [wpOpsS, go_sem, Exit.thenS]
 refine wpS_cond (t := true) (by simp [Act.eval]) ?_
 simp only [if_true]
 have hw := ha.lt
 refine wpS_of_wp ?_
 obtain ⟨W, hW⟩ : ∃ W, w.alloc (.cells #[.int .i64 (E : Nat), .int .i64 (A : Nat)] 121) = W := ⟨_, rfl⟩
 rw [hW] at hh2 he2 ha2 hx2 hk2 ⊢
 refine wp_region_any (by kernel_rfl) ?_
 have hl := hx2.lt
 have hS0 : Blk W.drew w.heap.size 121 [.int .i64 (E : Nat), .int .i64 (A : Nat)] := hx2
 have hh0 : Blk W.drew hb 26 [c0, c1, c2, c3] := hh2
 have he0 : Blk W.drew eb 33 [d0] := he2
 have ha0 : Blk W.drew ab 3 [d1] := ha2
 have hk0 : Kp (fun k => k = hb ∨ k = eb ∨ k = ab) w W.drew := hk2.drew
 refine any_of_held (S := fun V => Blk V w.heap.size 121 [.int .i64 (E : Nat), .int .i64 (A : Nat)]) (N := []) _ _ _ _ ?_
 change held _ _ _ _ _ _ _ _ _ W.drew
 obtain ⟨wa, hwa⟩ : ∃ wa, W.drew = wa := ⟨_, rfl⟩
 rw [hwa] at hS0 hh0 he0 ha0 hk0 ⊢
 have z0 := hh0.cell (i := 0) rfl
 have z1 := hh0.cell (i := 1) rfl
 have z2 := hh0.cell (i := 2) rfl
 have z3 := hh0.cell (i := 3) rfl
 have zf := hh0.free
 have HK := hid hk0; have HH := hid hh0; have HE := hid he0; have HA := hid ha0
 clear hwa hh2 he2 ha2 hx2 hk2 hW hh he ha hh0 he0 ha0 hk0
 refine held_take [] (i := 0) (v := .agg #[.string ⟨#[]⟩, .int .i64 0, .int .i64 0, .slice none 0 0]) rfl (by kernel_rfl) (fun _ _ _ h => h) (Or.inl ⟨by rfl, fun w' hS => by go_simp⟩) hS0 ?_
 try simp only [Act.put, aA, aB, aC]
 refine held_take [] (i := 1) (v := .pointer (some ⟨w.heap.size, 0, none⟩)) rfl (by kernel_rfl) (fun _ _ _ h => h) (Or.inl ⟨by rfl, fun w' hS => by go_simp⟩) hS0 ?_
 try simp only [Act.put, aA, aB, aC]
 refine held_take [] (i := 2) (v := .int .i64 (E : Nat)) rfl (by kernel_rfl) (fun _ _ _ h => h) (Or.inl ⟨by rfl, fun w' hS => by have hc := hS.cell (i := 0) rfl; go_simp⟩) hS0 ?_
 try simp only [Act.put, aA, aB, aC]
 refine held_take [] (i := 3) (v := .pointer (some ⟨w.heap.size, 1, none⟩)) rfl (by kernel_rfl) (fun _ _ _ h => h) (Or.inl ⟨by rfl, fun w' hS => by go_simp⟩) hS0 ?_
 try simp only [Act.put, aA, aB, aC]
 refine held_take [] (i := 4) (v := .int .i64 (A : Nat)) rfl (by kernel_rfl) (fun _ _ _ h => h) (Or.inl ⟨by rfl, fun w' hS => by have hc := hS.cell (i := 1) rfl; go_simp⟩) hS0 ?_
 try simp only [Act.put, aA, aB, aC]
 refine held_one (i := 5) rfl (by kernel_rfl) (fun K hK => ?_)
 go_simp
 rw [setCells_four]
 have K1 := Kp.setCells (E := onlyB hb) (p := hb) (Or.inl rfl) [.string ⟨#[]⟩, .int .i64 0, .int .i64 0, .slice none 0 0] 0 wa (Kp.refl _ _)
 have S1 := hS0.kept K1 (fun h => by have : w.heap.size = hb := h; omega)
 have E1 := HE.out.kept K1 (fun h => by have : eb = hb := h; omega)
 have A1 := HA.out.kept K1 (fun h => by have : ab = hb := h; omega)
 have H1 := HH.out.whole (vs := [.string ⟨#[]⟩, .int .i64 0, .int .i64 0, .slice none 0 0]) rfl
 have KK1 := HK.out.call K1 (fun k hk => Or.inl (Or.inl hk))
 refine hK.out _ _ (fun _ => S1) ?_
 clear hK K z0 z1 z2 z3 zf K1
 generalize wa.setCells hb 0 [.string ⟨#[]⟩, .int .i64 0, .int .i64 0, .slice none 0 0] = wb at *
 try simp only [Act.put, aA, aB, aC]
 have e0 := E1.cell (i := 0) rfl
 have ef := E1.free 0
 refine held_one (i := 6) rfl (by kernel_rfl) (fun K hK => ?_)
 go_simp
 have S2 := S1.other (p := ⟨eb, 0, none⟩) (by show ¬ eb = w.heap.size; omega) (.int .i64 (E : Nat))
 have E2 := E1.set 0 (.int .i64 (E : Nat))
 have A2 := A1.other (p := ⟨eb, 0, none⟩) (by show ¬ eb = ab; omega) (.int .i64 (E : Nat))
 have H2 := H1.other (p := ⟨eb, 0, none⟩) (by show ¬ eb = hb; omega) (.int .i64 (E : Nat))
 have KK2 := KK1.setOld eb 0 (Or.inr (Or.inl rfl)) (.int .i64 (E : Nat))
 refine hK.out _ _ (fun _ => S2) ?_
 clear hK K e0 ef
 generalize wb.setCell ⟨eb, 0, none⟩ (.int .i64 (E : Nat)) = wc at *
 try simp only [Act.put, aA, aB, aC]
 have a0 := A2.cell (i := 0) rfl
 have af := A2.free 0
 refine held_one (i := 7) rfl (by kernel_rfl) (fun K hK => ?_)
 go_simp
 have S3 := S2.other (p := ⟨ab, 0, none⟩) (by show ¬ ab = w.heap.size; omega) (.int .i64 (A : Nat))
 have E3 := E2.other (p := ⟨ab, 0, none⟩) (by show ¬ ab = eb; omega) (.int .i64 (A : Nat))
 have A3 := A2.set 0 (.int .i64 (A : Nat))
 have H3 := H2.other (p := ⟨ab, 0, none⟩) (by show ¬ ab = hb; omega) (.int .i64 (A : Nat))
 have KK3 := KK2.setOld ab 0 (Or.inr (Or.inr rfl)) (.int .i64 (A : Nat))
 refine hK.out _ _ (fun _ => S3) ?_
 clear hK K a0 af
 generalize wc.setCell ⟨ab, 0, none⟩ (.int .i64 (A : Nat)) = wd at *
 try simp only [Act.put, aA, aB, aC]
 refine held_done (by kernel_rfl) ?_ _
 exact ⟨rfl, _, rfl, _, by simp [results, Tryz.results56], rfl, rfl, H3, E3, A3, KK3⟩
end Go.Proofs.YtilfpnkcgjonhaaGreatDoor.Pl
namespace Go.Proofs.YtilfpnkcgjonhaaGreatDoor.Pl
open Go.RowKit Go.Sort Go.Shelf Foyer.Plan Foyer.Round
def HallV (n : Nat) (x : HallP × Nat × Nat) (e : Ending) (w' : World) : Prop := ∃ c, e = .returned (.tuple #[.agg c.toArray, .int .i64 (x.2.1 : Nat), .int .i64 (x.2.2 : Nat)]) ∧ hallK.is w' (fun k => n ≤ k) c x.1
theorem noHall_is (W : World) (F : Nat → Prop) : hallK.is W F [.string ⟨#[]⟩, .int .i64 0, .int .i64 0, .slice none 0 0] noHall :=
 ⟨.slice none 0 0, rfl, [], con_nil W 0 _ _, (fun k h => by cases h), All2.nil⟩
theorem parse_fail {ts r : List TokP} (h : hallP ts = .bad r) (n : Nat) : parseToks ts n = (noHall, failAt n r) := by unfold parseToks; rw [h]
theorem parse_left {ts r : List TokP} {t : TokP} {a : HallP} (h : hallP ts = .ok a (t :: r)) (n : Nat) : parseToks ts n = (noHall, failAt n (t :: r)) := by unfold parseToks; rw [h]
set_option maxRecDepth 100000 in
set_option maxHeartbeats 4000000 in
theorem toks_any (ts : List TokP) (p : Option Addr) (n cap L : Nat) (w : World) (hr : RdT w p ts) (hn : ts.length = n) (hc : n ≤ cap) (hm : cap ≤ maxLen) (hp : p = none → cap = 0) (h5 : ts.length ≤ 5000) :
  Calls Tryz.prog 35 #[.slice p n cap, .int .i64 (L : Nat)] w fun e w' => HallV w.heap.size (parseToks ts L) e w' ∧ Kp (fun _ => False) w w' := by
 have hmf := makes_func
 subst hn
 have x1 := (((Blk.new w 26 [.string ⟨#[]⟩, .int .i64 0, .int .i64 0, .slice none 0 0]).alloc (.cells #[.int .i64 0] 33)).alloc (.cells #[.int .i64 0] 3)).alloc (.cells #[.slice p ts.length cap, .int .i64 (L : Nat)] 125)
 have x2 := ((Blk.new (w.alloc (.cells #[.string ⟨#[]⟩, .int .i64 0, .int .i64 0, .slice none 0 0] 26)) 33 [.int .i64 0]).alloc (.cells #[.int .i64 0] 3)).alloc (.cells #[.slice p ts.length cap, .int .i64 (L : Nat)] 125)
 have x3 := (Blk.new ((w.alloc (.cells #[.string ⟨#[]⟩, .int .i64 0, .int .i64 0, .slice none 0 0] 26)).alloc (.cells #[.int .i64 0] 33)) 3 [.int .i64 0]).alloc (.cells #[.slice p ts.length cap, .int .i64 (L : Nat)] 125)
 have x4 := Blk.new (((w.alloc (.cells #[.string ⟨#[]⟩, .int .i64 0, .int .i64 0, .slice none 0 0] 26)).alloc (.cells #[.int .i64 0] 33)).alloc (.cells #[.int .i64 0] 3)) 125 [.slice p ts.length cap, .int .i64 (L : Nat)]
 have k0 := ((((Kp.refl (fun _ => False) w).alloc (.cells #[.string ⟨#[]⟩, .int .i64 0, .int .i64 0, .slice none 0 0] 26)).alloc (.cells #[.int .i64 0] 33)).alloc (.cells #[.int .i64 0] 3)).alloc (.cells #[.slice p ts.length cap, .int .i64 (L : Nat)] 125)
 have hs0 : w.heap.size + 4 ≤ ((((w.alloc (.cells #[.string ⟨#[]⟩, .int .i64 0, .int .i64 0, .slice none 0 0] 26)).alloc (.cells #[.int .i64 0] 33)).alloc (.cells #[.int .i64 0] 3)).alloc (.cells #[.slice p ts.length cap, .int .i64 (L : Nat)] 125)).heap.size := by simp
 simp only [World.size_alloc] at x2 x3 x4
 go_enter_defers Tryz.func35, Tryz.ntmps35
 go_upto_region 3 with fail
 generalize ((((w.alloc (.cells #[.string ⟨#[]⟩, .int .i64 0, .int .i64 0, .slice none 0 0] 26)).alloc (.cells #[.int .i64 0] 33)).alloc (.cells #[.int .i64 0] 3)).alloc (.cells #[.slice p ts.length cap, .int .i64 (L : Nat)] 125)) = W0 at *
 have a0 : At W0 (w.heap.size + 1 + 1 + 1) L ts := by
  refine ⟨p, cap, x4, hr.imp id ?_, hc, hm, hp⟩
  rintro ⟨b, off, rfl, hb, ht⟩
  exact ⟨b, off, rfl, by omega, fun j t hj => (ht j t hj).kept k0 (fun h => h)⟩
 have X1 := hid x1; have X2 := hid x2; have X3 := hid x3; have K0 := hid k0; have A0 := hid a0
 clear x1 x2 x3 x4 k0 a0 hr hp hm hc
 have i1 : w.heap.size < w.heap.size + 1 := by omega
 have i2 : w.heap.size + 1 < w.heap.size + 1 + 1 := by omega
 have i3 : w.heap.size + 1 + 1 < w.heap.size + 1 + 1 + 1 := by omega
 have i4 : w.heap.size + 1 + 1 + 1 < W0.heap.size := by omega
 clear hs0
 generalize w.heap.size + 1 + 1 + 1 = bp at *
 generalize w.heap.size + 1 + 1 = ab at *
 generalize w.heap.size + 1 = eb at *
 go_wp2_with fail
 refine (hall_any bp L ts W0 h5 A0.out).mono ?_
 rintro e W1 (⟨h, r, h1, ⟨c, rfl, hc⟩, a1, k1⟩ | ⟨r, h1, rfl, k1⟩)
 rotate_left
 ·have Y1 := hid (X1.out.kept k1 (fun h => by have : w.heap.size = bp := h; omega)); have Y2 := hid (X2.out.kept k1 (fun h => by have : eb = bp := h; omega)); have Y3 := hid (X3.out.kept k1 (fun h => by have : ab = bp := h; omega))
  have KK := hid (K0.out.call k1 (fun k hk => Or.inr (by have : k = bp := hk; omega))); have H1 := hid h1
  clear h1 k1 X1 X2 X3 K0 A0
  unfold failP
  go_wp2
  refine leaves_cons (f := 56) (args := #[.pointer (some ⟨w.heap.size, 0, none⟩), .pointer (some ⟨eb, 0, none⟩), .pointer (some ⟨ab, 0, none⟩)]) (by simp) (by simp [go_sem]) ?_
  refine (parseC_failed w.heap.size eb ab _ _ _ _ _ _ _ _ _ Y1.out Y2.out Y3.out (by omega) (by omega)).mono ?_
  rintro e u' w'' ⟨rfl, rfl, hH, hE, hA, hk⟩
  have c0 := hH.cell (i := 0) rfl
  have c1 := hH.cell (i := 1) rfl
  have c2 := hH.cell (i := 2) rfl
  have c3 := hH.cell (i := 3) rfl
  have c4 := hE.cell (i := 0) rfl
  have c5 := hA.cell (i := 0) rfl
  have kk : Kp (fun _ => False) w w'' := KK.out.call hk (fun k hk => Or.inr (by rcases hk with h | h | h <;> omega))
  clear hH hE hA hk
  simp [Leaves, settle, results, Tryz.results35, c0, c1, c2, c3, c4, c5, go_sem]
  exact ⟨⟨_, by rw [parse_fail H1.out], by rw [parse_fail H1.out]; exact noHall_is _ _⟩, kk⟩
 obtain ⟨v, rfl, hl⟩ := hc
 obtain ⟨sa, sn, sc, rfl⟩ := hl.slice
 have y1 := X1.out.kept k1 (fun h => by have : w.heap.size = bp := h; omega)
 have z0 := y1.cell (i := 0) rfl
 have z1 := y1.cell (i := 1) rfl
 have z2 := y1.cell (i := 2) rfl
 have z3 := y1.cell (i := 3) rfl
 have zf := y1.free
 have Y1 := hid y1; have Y2 := hid (X2.out.kept k1 (fun h => by have : eb = bp := h; omega)); have Y3 := hid (X3.out.kept k1 (fun h => by have : ab = bp := h; omega))
 have K1 := hid (K0.out.call k1 (fun k hk => Or.inr (by have : k = bp := hk; omega))); have H1 := hid h1; have A1 := hid a1; have HL := hid hl
 have hz := k1.size
 clear h1 k1 X1 X2 X3 K0 A0 a1 hl y1
 unfold hallCl
 go_upto_region 4 with fail
 rw [setCells_four]
 clear z0 z1 z2 z3 zf
 have R2 := Kp.setCells (E := onlyB w.heap.size) (p := w.heap.size) (Or.inl rfl) [.string ⟨h.name.toArray⟩, .int .i64 (h.sx : Nat), .int .i64 (h.sy : Nat), .slice sa sn sc] 0 W1 (Kp.refl _ _)
 have Z1 := hid (Y1.out.whole (vs := [.string ⟨h.name.toArray⟩, .int .i64 (h.sx : Nat), .int .i64 (h.sy : Nat), .slice sa sn sc]) rfl)
 have Z2 := hid (Y2.out.kept R2 (fun h => by have : eb = w.heap.size := h; omega))
 have Z3 := hid (Y3.out.kept R2 (fun h => by have : ab = w.heap.size := h; omega))
 have KK := hid (K1.out.call R2 (fun k hk => Or.inr (by have : k = w.heap.size := hk; omega)))
 have a2 : At (W1.setCells w.heap.size 0 [.string ⟨h.name.toArray⟩, .int .i64 (h.sx : Nat), .int .i64 (h.sy : Nat), .slice sa sn sc]) bp L r := by
  obtain ⟨q, cap', b1, b2, b3⟩ := A1.out
  refine ⟨q, cap', b1.kept R2 (fun h => by have : bp = w.heap.size := h; omega), ?_, b3⟩
  cases r with
  | nil => exact Or.inl rfl
  | cons t r =>
   rcases b2 with b2 | ⟨b, off, rfl, hb, ht⟩
   ·cases b2
   ·have hne : b ≠ w.heap.size := fun e => by
     subst e
     have hx := (ht 0 t rfl).text
     rw [Nat.zero_mul, Nat.add_zero] at hx
     have hY : ∀ v, ([.string ⟨#[]⟩, .int .i64 0, .int .i64 0, .slice none 0 0] : List Value)[off + 1]? = v → W1.cell? ⟨w.heap.size, off + 1, none⟩ = v := fun v hv => by
      unfold World.cell?
      rw [show W1.heap[(⟨w.heap.size, off + 1, none⟩ : Addr).block]? = _ from Y1.out]
      simpa using hv
     match off, hx, hY with
     | 0, hx, hY => rw [hY _ rfl] at hx; cases hx
     | 1, hx, hY => rw [hY _ rfl] at hx; cases hx
     | 2, hx, hY => rw [hY _ rfl] at hx; cases hx
     | k + 3, hx, hY => rw [hY none rfl] at hx; cases hx
    exact Or.inr ⟨b, off, rfl, hb, fun j u hj => (ht j u hj).kept R2 hne⟩
 have hz2 : W0.heap.size ≤ (W1.setCells w.heap.size 0 [.string ⟨h.name.toArray⟩, .int .i64 (h.sx : Nat), .int .i64 (h.sy : Nat), .slice sa sn sc]).heap.size := Nat.le_trans hz R2.size
 have hl2 : IsList levelK (W1.setCells w.heap.size 0 [.string ⟨h.name.toArray⟩, .int .i64 (h.sx : Nat), .int .i64 (h.sy : Nat), .slice sa sn sc]) (fun k => W0.heap.size ≤ k) 50 (.slice sa sn sc) h.levels := HL.out.kept (fun k hk hlt => setCells_heap W1 w.heap.size _ hlt (by have : W0.heap.size ≤ k := hk; omega))
 have A2 := hid a2; have HL2 := hid hl2
 clear R2 a2 hl2 Y1 Y2 Y3 K1 A1 HL hz
 generalize W1.setCells w.heap.size 0 [.string ⟨h.name.toArray⟩, .int .i64 (h.sx : Nat), .int .i64 (h.sy : Nat), .slice sa sn sc] = W2 at *
 obtain ⟨q, cap', hB, _⟩ := A2.out
 have cq := hB.cell (i := 0) rfl
 clear hB
 cases r with
 | nil =>
  have c0 := Z1.out.cell (i := 0) rfl
  have c1 := Z1.out.cell (i := 1) rfl
  have c2 := Z1.out.cell (i := 2) rfl
  have c3 := Z1.out.cell (i := 3) rfl
  have cf := Z1.out.free
  have c4 := Z2.out.cell (i := 0) rfl
  have cf4 := Z2.out.free
  have c5 := Z3.out.cell (i := 0) rfl
  have cf5 := Z3.out.free
  have hne1 : ¬ w.heap.size = eb := by omega
  have hne2 : ¬ w.heap.size = ab := by omega
  have hne3 : ¬ eb = ab := by omega
  go_wp2
  refine leaves_cons (f := 56) (args := #[.pointer (some ⟨w.heap.size, 0, none⟩), .pointer (some ⟨eb, 0, none⟩), .pointer (some ⟨ab, 0, none⟩)]) (by simp) (by simp [go_sem]) ?_
  refine (parseC_idle w.heap.size eb ab _).mono ?_
  rintro e u' w'' ⟨rfl, rfl, rfl⟩
  have f1 : Blk (((((((W2.setCell ⟨w.heap.size, 0, none⟩ (.string ⟨h.name.toArray⟩)).setCell ⟨w.heap.size, 1, none⟩ (.int .i64 (h.sx : Nat))).setCell ⟨w.heap.size, 2, none⟩ (.int .i64 (h.sy : Nat))).setCell ⟨w.heap.size, 3, none⟩ (.slice sa sn sc)).setCell ⟨eb, 0, none⟩ (.int .i64 0)).setCell ⟨ab, 0, none⟩ (.int .i64 0)).alloc (.cells #[.int .i64 0, .int .i64 0] 121)) w.heap.size 26 [.string ⟨h.name.toArray⟩, .int .i64 (h.sx : Nat), .int .i64 (h.sy : Nat), .slice sa sn sc] := ((((((Z1.out.set 0 (.string ⟨h.name.toArray⟩)).set 1 (.int .i64 (h.sx : Nat))).set 2 (.int .i64 (h.sy : Nat))).set 3 (.slice sa sn sc)).other (p := ⟨eb, 0, none⟩) (by show ¬ eb = w.heap.size; omega) (.int .i64 0)).other (p := ⟨ab, 0, none⟩) (by show ¬ ab = w.heap.size; omega) (.int .i64 0)).alloc (.cells #[.int .i64 0, .int .i64 0] 121)
  have f2 : Blk (((((((W2.setCell ⟨w.heap.size, 0, none⟩ (.string ⟨h.name.toArray⟩)).setCell ⟨w.heap.size, 1, none⟩ (.int .i64 (h.sx : Nat))).setCell ⟨w.heap.size, 2, none⟩ (.int .i64 (h.sy : Nat))).setCell ⟨w.heap.size, 3, none⟩ (.slice sa sn sc)).setCell ⟨eb, 0, none⟩ (.int .i64 0)).setCell ⟨ab, 0, none⟩ (.int .i64 0)).alloc (.cells #[.int .i64 0, .int .i64 0] 121)) eb 33 [.int .i64 0] := ((((((Z2.out.other (p := ⟨w.heap.size, 0, none⟩) (by show ¬ w.heap.size = eb; omega) (.string ⟨h.name.toArray⟩)).other (p := ⟨w.heap.size, 1, none⟩) (by show ¬ w.heap.size = eb; omega) (.int .i64 (h.sx : Nat))).other (p := ⟨w.heap.size, 2, none⟩) (by show ¬ w.heap.size = eb; omega) (.int .i64 (h.sy : Nat))).other (p := ⟨w.heap.size, 3, none⟩) (by show ¬ w.heap.size = eb; omega) (.slice sa sn sc)).set 0 (.int .i64 0)).other (p := ⟨ab, 0, none⟩) (by show ¬ ab = eb; omega) (.int .i64 0)).alloc (.cells #[.int .i64 0, .int .i64 0] 121)
  have f3 : Blk (((((((W2.setCell ⟨w.heap.size, 0, none⟩ (.string ⟨h.name.toArray⟩)).setCell ⟨w.heap.size, 1, none⟩ (.int .i64 (h.sx : Nat))).setCell ⟨w.heap.size, 2, none⟩ (.int .i64 (h.sy : Nat))).setCell ⟨w.heap.size, 3, none⟩ (.slice sa sn sc)).setCell ⟨eb, 0, none⟩ (.int .i64 0)).setCell ⟨ab, 0, none⟩ (.int .i64 0)).alloc (.cells #[.int .i64 0, .int .i64 0] 121)) ab 3 [.int .i64 0] := ((((((Z3.out.other (p := ⟨w.heap.size, 0, none⟩) (by show ¬ w.heap.size = ab; omega) (.string ⟨h.name.toArray⟩)).other (p := ⟨w.heap.size, 1, none⟩) (by show ¬ w.heap.size = ab; omega) (.int .i64 (h.sx : Nat))).other (p := ⟨w.heap.size, 2, none⟩) (by show ¬ w.heap.size = ab; omega) (.int .i64 (h.sy : Nat))).other (p := ⟨w.heap.size, 3, none⟩) (by show ¬ w.heap.size = ab; omega) (.slice sa sn sc)).other (p := ⟨eb, 0, none⟩) (by show ¬ eb = ab; omega) (.int .i64 0)).set 0 (.int .i64 0)).alloc (.cells #[.int .i64 0, .int .i64 0] 121)
  have kf := ((((((KK.out.setNew w.heap.size 0 (by omega) (.string ⟨h.name.toArray⟩)).setNew w.heap.size 1 (by omega) (.int .i64 (h.sx : Nat))).setNew w.heap.size 2 (by omega) (.int .i64 (h.sy : Nat))).setNew w.heap.size 3 (by omega) (.slice sa sn sc)).setNew eb 0 (by omega) (.int .i64 0)).setNew ab 0 (by omega) (.int .i64 0)).alloc (.cells #[.int .i64 0, .int .i64 0] 121)
  have k2 := (((((((Kp.refl (fun k => k = w.heap.size ∨ k = eb ∨ k = ab) W2).setOld w.heap.size 0 (Or.inl rfl) (.string ⟨h.name.toArray⟩)).setOld w.heap.size 1 (Or.inl rfl) (.int .i64 (h.sx : Nat))).setOld w.heap.size 2 (Or.inl rfl) (.int .i64 (h.sy : Nat))).setOld w.heap.size 3 (Or.inl rfl) (.slice sa sn sc)).setOld eb 0 (Or.inr (Or.inl rfl)) (.int .i64 0)).setOld ab 0 (Or.inr (Or.inr rfl)) (.int .i64 0)).alloc (.cells #[.int .i64 0, .int .i64 0] 121)
  have hl3 : IsList levelK (((((((W2.setCell ⟨w.heap.size, 0, none⟩ (.string ⟨h.name.toArray⟩)).setCell ⟨w.heap.size, 1, none⟩ (.int .i64 (h.sx : Nat))).setCell ⟨w.heap.size, 2, none⟩ (.int .i64 (h.sy : Nat))).setCell ⟨w.heap.size, 3, none⟩ (.slice sa sn sc)).setCell ⟨eb, 0, none⟩ (.int .i64 0)).setCell ⟨ab, 0, none⟩ (.int .i64 0)).alloc (.cells #[.int .i64 0, .int .i64 0] 121)) (fun k => W0.heap.size ≤ k) 50 (.slice sa sn sc) h.levels := HL2.out.kept (fun k hk hlt => k2.block k hlt (fun h => by have : W0.heap.size ≤ k := hk; omega))
  generalize ((((((W2.setCell ⟨w.heap.size, 0, none⟩ (.string ⟨h.name.toArray⟩)).setCell ⟨w.heap.size, 1, none⟩ (.int .i64 (h.sx : Nat))).setCell ⟨w.heap.size, 2, none⟩ (.int .i64 (h.sy : Nat))).setCell ⟨w.heap.size, 3, none⟩ (.slice sa sn sc)).setCell ⟨eb, 0, none⟩ (.int .i64 0)).setCell ⟨ab, 0, none⟩ (.int .i64 0)).alloc (.cells #[.int .i64 0, .int .i64 0] 121) = Wf at *
  have e0 := f1.cell (i := 0) rfl
  have e1 := f1.cell (i := 1) rfl
  have e2 := f1.cell (i := 2) rfl
  have e3 := f1.cell (i := 3) rfl
  have e4 := f2.cell (i := 0) rfl
  have e5 := f3.cell (i := 0) rfl
  clear f1 f2 f3 k2 c0 c1 c2 c3 cf c4 cf4 c5 cf5
  simp [Leaves, settle, results, Tryz.results35, e0, e1, e2, e3, e4, e5, go_sem]
  refine ⟨⟨hallCl h (.slice sa sn sc), by rw [parse_ok H1.out]; rfl, ?_⟩, kf⟩
  rw [parse_ok H1.out]
  exact ⟨_, rfl, hl3.mono (fun k hk _ => by have : W0.heap.size ≤ k := hk; omega)⟩
 | cons t r =>
  have hpos : (0 : Int) < (r.length : Int) + 1 := by omega
  go_wp2_with fail
  refine (fail_any bp L (t :: r) _ A2.out).mono ?_
  rintro e W3 ⟨rfl, rfl⟩
  clear cq
  unfold failP
  go_wp2
  refine leaves_cons (f := 56) (args := #[.pointer (some ⟨w.heap.size, 0, none⟩), .pointer (some ⟨eb, 0, none⟩), .pointer (some ⟨ab, 0, none⟩)]) (by simp) (by simp [go_sem]) ?_
  refine (parseC_failed w.heap.size eb ab _ _ _ _ _ _ _ _ _ Z1.out Z2.out Z3.out (by omega) (by omega)).mono ?_
  rintro e u' w'' ⟨rfl, rfl, hH, hE, hA, hk⟩
  have c0 := hH.cell (i := 0) rfl
  have c1 := hH.cell (i := 1) rfl
  have c2 := hH.cell (i := 2) rfl
  have c3 := hH.cell (i := 3) rfl
  have c4 := hE.cell (i := 0) rfl
  have c5 := hA.cell (i := 0) rfl
  have kk : Kp (fun _ => False) w w'' := KK.out.call hk (fun k hk => Or.inr (by rcases hk with h | h | h <;> omega))
  clear hH hE hA hk
  simp [Leaves, settle, results, Tryz.results35, c0, c1, c2, c3, c4, c5, go_sem]
  exact ⟨⟨_, by rw [parse_left H1.out], by rw [parse_left H1.out]; exact noHall_is _ _⟩, kk⟩
end Go.Proofs.YtilfpnkcgjonhaaGreatDoor.Pl
namespace Go.Proofs.YtilfpnkcgjonhaaGreatDoor.Pl
open Go.RowKit Go.Sort Go.Shelf Foyer.Plan Foyer.Round
def PlanV (n : Nat) (x : HallP × Nat × Int) (e : Ending) (w' : World) : Prop := ∃ c, e = .returned (.tuple #[.agg c.toArray, .int .i64 (x.2.1 : Nat), .int .i64 x.2.2]) ∧ hallK.is w' (fun k => n ≤ k) c x.1
theorem parseAll_bad {l : List UInt8} (h : (Foyer.Lexer.lexAll l).2.1 ≠ 0) : parseAll l = (noHall, (Foyer.Lexer.lexAll l).2.1, (Foyer.Lexer.lexAll l).2.2) := by unfold parseAll; rw [if_neg h]
theorem parseAll_ok {l : List UInt8} (h : (Foyer.Lexer.lexAll l).2.1 = 0) : parseAll l = ((parseToks (Foyer.Lexer.lexAll l).1 l.length).1, (parseToks (Foyer.Lexer.lexAll l).1 l.length).2.1, (((parseToks (Foyer.Lexer.lexAll l).1 l.length).2.2 : Nat) : Int)) := by unfold parseAll; rw [if_pos h]
theorem results_plan (tmps : Array Value) (W : World) (hb : Nat) (c0 c1 c2 c3 : Value) (h : Blk W hb 26 [c0, c1, c2, c3]) (h2 : tmps.getD 2 undef = .pointer (some ⟨hb, 0, none⟩)) :
  (results Tryz.f18 tmps).run Tryz.prog W = .ok (.tuple #[.agg #[c0, c1, c2, c3], tmps.getD 3 undef, tmps.getD 4 undef]) W := by
 have e0 := h.cell (i := 0) rfl
 have e1 := h.cell (i := 1) rfl
 have e2 := h.cell (i := 2) rfl
 have e3 := h.cell (i := 3) rfl
 have h2' : tmps[2]?.getD undef = .pointer (some ⟨hb, 0, none⟩) := by simpa using h2
 simp [results, Tryz.results18, h2', e0, e1, e2, e3, go_sem]
set_option maxRecDepth 100000 in
set_option maxHeartbeats 2000000 in
theorem plan_any (t : ByteArray) (ht : t.size ≤ 1000000) (w : World) : Calls Tryz.prog 18 #[.string t] w fun e w' => PlanV w.heap.size (parseAll t.data.toList) e w' ∧ Below w.heap.size w w' := by
 have hb5 := (Foyer.Lexer.lexAll_bounds t.data.toList).1
 have R0 := hid (Blk.new w 26 [.string ⟨#[]⟩, .int .i64 0, .int .i64 0, .slice none 0 0])
 have hsz : t.size = t.data.toList.length := by rw [Array.length_toList]; rfl
 have B0 : Hid (Kp (fun _ => False) w (w.alloc (.cells #[.string ⟨#[]⟩, .int .i64 0, .int .i64 0, .slice none 0 0] 26))) := hid ((Kp.refl _ _).alloc _)
 have hs0 : w.heap.size < (w.alloc (.cells #[.string ⟨#[]⟩, .int .i64 0, .int .i64 0, .slice none 0 0] 26)).heap.size := by simp
 have HSZ := hid hsz
 clear hsz
 go_enter Tryz.func18, Tryz.ntmps18
 go_wp2_with fail
 refine (lex_any t ht _).mono ?_
 rintro e w1 ⟨p, cap, rfl, hr, hc, hm, hb1⟩
 have kb : Kp (fun _ => False) _ w1 := Kp.of_below hb1
 have R1 := hid (R0.out.kept kb (fun h => h)); have B1 := hid (B0.out.trans kb); have hs1 := Nat.lt_of_lt_of_le hs0 hb1.size
 have z0 := R1.out.cell (i := 0) rfl
 have z1 := R1.out.cell (i := 1) rfl
 have z2 := R1.out.cell (i := 2) rfl
 have z3 := R1.out.cell (i := 3) rfl
 have zf := R1.out.free
 have HR := hid hr; have HC := hid hc; have HM := hid hm
 obtain ⟨ts, hts⟩ : ∃ ts, (Foyer.Lexer.lexAll t.data.toList).1 = ts := ⟨_, rfl⟩
 obtain ⟨E, hE⟩ : ∃ E, (Foyer.Lexer.lexAll t.data.toList).2.1 = E := ⟨_, rfl⟩
 obtain ⟨O, hO⟩ : ∃ O, (Foyer.Lexer.lexAll t.data.toList).2.2 = O := ⟨_, rfl⟩
 clear hr hc hm hb1 kb R0 B0 hs0
 by_cases h0 : E = 0
 ·have hp := parseAll_ok (hE.trans h0)
  rw [hts] at hp
  have HP := hid hp; have hne : (((E : Nat) : Int) != 0) = false := by simp [h0]
  rw [hts] at HR HC hb5
  rw [hts, hE, hO]
  clear hts hE hO hp h0
  rw [← HSZ.out] at HP
  go_wp2_with fail
  refine (toks_any ts p ts.length cap t.size w1 HR.out rfl HC.out HM.out.1 HM.out.2 hb5).mono ?_
  rintro e w2 ⟨⟨c, rfl, v, rfl, hv⟩, hk⟩
  obtain ⟨sa, sn, sc, rfl⟩ := hv.slice
  have hz2 := hk.size
  have r2 := R1.out.kept hk (fun h => h)
  have y0 := r2.cell (i := 0) rfl
  have y1 := r2.cell (i := 1) rfl
  have y2 := r2.cell (i := 2) rfl
  have y3 := r2.cell (i := 3) rfl
  have yf := r2.free
  have R2 := hid r2; have HV := hid hv; have B2 := hid (B1.out.trans hk)
  clear z0 z1 z2 z3 zf HR HC HM R1 B1 r2 hv hk hb5
  unfold hallCl
  go_wp2
  rw [setCells_four]
  refine bodyPost_ret (results_plan _ _ w.heap.size _ _ _ _ (R2.out.whole (vs := [.string ⟨(parseToks ts t.size).1.name.toArray⟩, .int .i64 ((parseToks ts t.size).1.sx : Nat), .int .i64 ((parseToks ts t.size).1.sy : Nat), .slice sa sn sc]) rfl) rfl) rfl ?_
  refine ⟨?_, (B2.out.result (b := w.heap.size) (Nat.le_refl _) _).below (Nat.le_refl _) (fun k hk => hk.elim)⟩
  rw [HP.out]
  refine ⟨hallCl (parseToks ts t.size).1 (.slice sa sn sc), rfl, ⟨_, rfl, ?_⟩⟩
  exact (HV.out.kept (fun k hk hlt => setCells_heap w2 w.heap.size _ hlt (by have : w1.heap.size ≤ k := hk; omega))).mono (fun k hk _ => by have : w1.heap.size ≤ k := hk; omega)
 ·have hp := parseAll_bad (fun h => h0 (hE.symm.trans h))
  rw [hE, hO] at hp
  have HP := hid hp; have hne : (((E : Nat) : Int) != 0) = true := by simp [h0]
  rw [hts, hE, hO]
  clear hts hE hO hp h0
  go_wp2
  rw [setCells_four]
  refine bodyPost_ret (results_plan _ _ w.heap.size _ _ _ _ (R1.out.whole (vs := [.string ⟨#[]⟩, .int .i64 0, .int .i64 0, .slice none 0 0]) rfl) rfl) rfl ?_
  refine ⟨?_, (B1.out.result (b := w.heap.size) (Nat.le_refl _) _).below (Nat.le_refl _) (fun k hk => hk.elim)⟩
  rw [HP.out]
  exact ⟨_, rfl, noHall_is _ _⟩
end Go.Proofs.YtilfpnkcgjonhaaGreatDoor.Pl
