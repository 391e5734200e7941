/-
  The document's own reader of plans: an item of a level.
-/
import Derived.Test.YtlfjdohjfmfcdaaGreatDoorRefLv6
namespace Go.Proofs.YtlfjdohjfmfcdaaGreatDoor
open Go.RowKit Go.Sort Foyer.Plan
set_option linter.unusedSimpArgs false

/-- What a level's reader returns: the struct, its lists apart. -/
def LvPost (w' : World) (base : Nat) (ln : List UInt8) (lh lp : Nat) (is : List ItemP) (e : Ending) : Prop := ∃ u1 u2 u3 u4 u5, e = .returned (.agg #[.string ⟨ln.toArray⟩, .int .i64 (lh : Nat), u1, u2, u3, u4, u5, .int .i64 (lp : Nat)]) ∧ L5 w' base (fun _ => True) u1 u2 u3 u4 u5 is
theorem one_q {α : Type} {m : St → α × St} {s s1 : St} {a : α} (h : m s = (a, s1)) : (fun s : St => ([(m s).1], (m s).2)) s = ([a], s1) := by show ([(m s).1], (m s).2) = _; rw [h]
theorem one_step {α : Type} {m : St → α × St} {s s1 : St} {a : α} {c : List UInt8} (h0 : s.err = 0) (h : rSees s c = false) (hq : m s = (a, s1)) (f : Nat) (l : List α) : rMany c (fun s : St => ([(m s).1], (m s).2)) (f + 1) l s = rMany c (fun s : St => ([(m s).1], (m s).2)) f (l ++ [a]) s1 := many_step h0 h (one_q hq) f l
theorem one_sane {α : Type} {N : Nat} {p : Par α} {m : St → α × St} {s s1 : St} {a : α} (hm : FitM N p m) (hs : SaneS s) (hq : m s = (a, s1)) : SaneS s1 := part_sane (one_m hm) hs (one_q hq)
theorem one_less {α : Type} {N : Nat} {p : Par α} (he : Eats p) {m : St → α × St} {s s1 : St} {a : α} (hm : FitM N p m) (hs : SaneS s) (h0 : s.err = 0) (hq : m s = (a, s1)) : s1.err = 0 → s1.left.length < s.left.length := part_less he (one_m hm) hs h0 (one_q hq)
theorem sort_none {s : St} (h1 : rSees s wBlock = false) (h2 : rSees s wArea = false) (h3 : rSees s wAisle = false) (h4 : rSees s wPillar = false) (h5 : rSees s wDoor = false) : sortS s = 0 := by unfold sortS; simp [h1, h2, h3, h4, h5]
set_option maxRecDepth 100000 in
set_option maxHeartbeats 16000000 in
theorem ditem_c {r : List ItemP} {sz : St} (base : Nat) (ln : List UInt8) (lh lp : Nat) (is : List ItemP) (v1 v2 v3 v4 v5 : Value) (B : World) (N : Nat) (Ls : List Foyer.Lexer.Tok) (p : Option Addr) (cap : Nat) (hL : IsLs B p cap Ls) (rb : Nat) (s : St) (i : Nat) (hI : s.left = Ls.drop i) (hi : i ≤ Ls.length) (w : World) (hB : Below B.heap.size B w) (hrb : B.heap.size ≤ rb) (hR : Blk w rb 57 [.slice p Ls.length cap, .int .i64 (i : Nat), .int .i64 (s.err : Nat), .int .i64 (s.pos : Nat), .int .i64 (N : Nat)]) (hs : SaneS s) (hfew : is.length ≤ 5000) (hbs : B.heap.size ≤ base) (hrb2 : rb < base) (hbw : base ≤ w.heap.size) (h5 : L5 w base (fun _ => True) v1 v2 v3 v4 v5 is) (h : itemS N s = (r, sz)) :
    Calls Tryz.prog 26 #[.pointer (some ⟨rb, 0, none⟩), .agg #[.string ⟨ln.toArray⟩, .int .i64 (lh : Nat), v1, v2, v3, v4, v5, .int .i64 (lp : Nat)]] w fun e w' => LvPost w' base ln lh lp (is ++ r) e ∧ (∃ i2, Blk w' rb 57 [.slice p Ls.length cap, .int .i64 (i2 : Nat), .int .i64 (sz.err : Nat), .int .i64 (sz.pos : Nat), .int .i64 (N : Nat)] ∧ sz.left = Ls.drop i2 ∧ i2 ≤ Ls.length) ∧ Kp (E5 rb base) w w' := by
  have hfw := hL.few
  obtain ⟨a1, c1, hv1⟩ := h5.b1.len6
  subst hv1
  obtain ⟨a2, c2, hv2⟩ := h5.b2.len6
  subst hv2
  obtain ⟨a3, c3, hv3⟩ := h5.b3.len6
  subst hv3
  obtain ⟨a4, c4, hv4⟩ := h5.b4.len6
  subst hv4
  obtain ⟨a5, c5, hv5⟩ := h5.b5.len6
  subst hv5
  obtain ⟨n1, hn1⟩ : ∃ z, (blocksOf is).length = z := ⟨_, rfl⟩
  obtain ⟨n2, hn2⟩ : ∃ z, (areasOf is).length = z := ⟨_, rfl⟩
  obtain ⟨n3, hn3⟩ : ∃ z, (aislesOf is).length = z := ⟨_, rfl⟩
  obtain ⟨n4, hn4⟩ : ∃ z, (pillarsOf is).length = z := ⟨_, rfl⟩
  obtain ⟨n5, hn5⟩ : ∃ z, (doorsOf is).length = z := ⟨_, rfl⟩
  have hnn : n1 ≤ 5000 ∧ n2 ≤ 5000 ∧ n3 ≤ 5000 ∧ n4 ≤ 5000 ∧ n5 ≤ 5000 := by
    rw [← hn1, ← hn2, ← hn3, ← hn4, ← hn5]
    exact ⟨Nat.le_trans (List.length_filterMap_le _ _) hfew, Nat.le_trans (List.length_filterMap_le _ _) hfew, Nat.le_trans (List.length_filterMap_le _ _) hfew, Nat.le_trans (List.length_filterMap_le _ _) hfew, Nat.le_trans (List.length_filterMap_le _ _) hfew⟩
  rw [hn1, hn2, hn3, hn4, hn5] at h5 ⊢
  have H5 := Lib.hid (h5.mono (G' := fun k => k < w.heap.size) (fun k _ hk => hk))
  have hnl : (blocksOf is).length = n1 ∧ (areasOf is).length = n2 ∧ (aislesOf is).length = n3 ∧ (pillarsOf is).length = n4 ∧ (doorsOf is).length = n5 := ⟨hn1, hn2, hn3, hn4, hn5⟩
  have HNL := Lib.hid hnl; have HNN := Lib.hid hnn
  obtain ⟨aa, ha⟩ : ∃ z, rAt N s = z := ⟨_, rfl⟩
  obtain ⟨b1, hb1⟩ : ∃ z, rSees s wBlock = z := ⟨_, rfl⟩
  obtain ⟨b2, hb2⟩ : ∃ z, rSees s wArea = z := ⟨_, rfl⟩
  obtain ⟨b3, hb3⟩ : ∃ z, rSees s wAisle = z := ⟨_, rfl⟩
  obtain ⟨b4, hb4⟩ : ∃ z, rSees s wPillar = z := ⟨_, rfl⟩
  obtain ⟨b5, hb5⟩ : ∃ z, rSees s wDoor = z := ⟨_, rfl⟩
  have hlr := hR.lt
  have HI := Lib.hid hI; have HB := Lib.hid hB; have HR := Lib.hid hR; have HS := Lib.hid hs; have HH := Lib.hid h; have NA := Lib.hid ha; have NB1 := Lib.hid hb1; have NB2 := Lib.hid hb2; have NB3 := Lib.hid hb3; have NB4 := Lib.hid hb4; have NB5 := Lib.hid hb5
  clear hI hB hR hs h ha h5 hnl hnn hn1 hn2 hn3 hn4 hn5 hb1 hb2 hb3 hb4 hb5
  go_enter Tryz.func26, Tryz.ntmps26
  go_upto_region 1 with fail
  have k_R := HR.out
  obtain ⟨W1, hW1, bW1, sW1, k2_R, k2_l, k2_t⟩ : ∃ xW, ((w.alloc (.cells #[.string ⟨ln.toArray⟩, .int .i64 (lh : Nat), .slice a1 n1 c1, .slice a2 n2 c2, .slice a3 n3 c3, .slice a4 n4 c4, .slice a5 n5 c5, .int .i64 (lp : Nat)] 38)).alloc (.cells #[.string ⟨#[]⟩, .int .i64 0, .slice none 0 0, .slice none 0 0, .slice none 0 0, .slice none 0 0, .slice none 0 0, .int .i64 0] 38)) = xW ∧ Kp (onlyB rb) w xW ∧ w.heap.size + 1 + 1 ≤ xW.heap.size ∧ Blk xW (rb) 57 [.slice p Ls.length cap, .int .i64 (i : Nat), .int .i64 (s.err : Nat), .int .i64 (s.pos : Nat), .int .i64 (N : Nat)] ∧ Blk xW (w.heap.size) 38 [.string ⟨ln.toArray⟩, .int .i64 (lh : Nat), .slice a1 n1 c1, .slice a2 n2 c2, .slice a3 n3 c3, .slice a4 n4 c4, .slice a5 n5 c5, .int .i64 (lp : Nat)] ∧ Blk xW (w.heap.size + 1) 38 [.string ⟨#[]⟩, .int .i64 0, .slice none 0 0, .slice none 0 0, .slice none 0 0, .slice none 0 0, .slice none 0 0, .int .i64 0] := ⟨_, rfl, (Kp.alloc (Kp.alloc (Kp.refl (onlyB rb) w) _) _), by simp only [World.setCell, World.size_alloc, Array.size_modify, Nat.le_refl], (Blk.alloc (Blk.alloc k_R _) _), (Blk.alloc (Blk.new' _ _ _ (rfl)) _), (Blk.new' _ _ _ (by simp only [World.size_alloc]))⟩
  rw [hW1]
  clear hW1 k_R
  have k_R := k2_R
  have k_l := k2_l
  have k_t := k2_t
  clear k2_R k2_l k2_t
  have hbase : w.heap.size + 2 ≤ W1.heap.size := sW1
  go_wp2_with fail
  refine (dat_c B N Ls p cap hL rb s i HI.out hi W1 (Below.kp HB.out hrb bW1) hrb k_R NA.out).mono ?_; rintro e W2 ⟨rfl, hb0⟩
  have hb : Kp (fun _ => False) W1 W2 := Kp.of_below hb0
  clear hb0
  have sW2 := Nat.le_trans sW1 hb.size
  have bW2 := (bW1).trans (Kp.mono hb (fun _ h => h.elim))
  replace k_R := Blk.kept k_R hb (fun h => h)
  replace k_l := Blk.kept k_l hb (fun h => h)
  replace k_t := Blk.kept k_t hb (fun h => h)
  clear hb bW1 sW1
  have hse := dsees_any wBlock B N Ls p cap hL rb s i HI.out hi W2 (Below.kp HB.out hrb bW2) hrb k_R
  rw [NB1.out] at hse
  have HSE := Lib.hid hse
  clear hse
  go_wp2_with fail
  refine (HSE.out).mono ?_; rintro e W3 ⟨rfl, hb0⟩
  have hb : Kp (fun _ => False) W2 W3 := Kp.of_below hb0
  clear hb0
  have sW3 := Nat.le_trans sW2 hb.size
  have bW3 := (bW2).trans (Kp.mono hb (fun _ h => h.elim))
  replace k_R := Blk.kept k_R hb (fun h => h)
  replace k_l := Blk.kept k_l hb (fun h => h)
  replace k_t := Blk.kept k_t hb (fun h => h)
  clear hb bW2 sW2
  clear HSE
  cases b1
  · have hse := dsees_any wArea B N Ls p cap hL rb s i HI.out hi W3 (Below.kp HB.out hrb bW3) hrb k_R
    rw [NB2.out] at hse
    have HSE := Lib.hid hse
    clear hse
    go_wp2_with fail
    refine (HSE.out).mono ?_; rintro e W4 ⟨rfl, hb0⟩
    have hb : Kp (fun _ => False) W3 W4 := Kp.of_below hb0
    clear hb0
    have sW4 := Nat.le_trans sW3 hb.size
    have bW4 := (bW3).trans (Kp.mono hb (fun _ h => h.elim))
    replace k_R := Blk.kept k_R hb (fun h => h)
    replace k_l := Blk.kept k_l hb (fun h => h)
    replace k_t := Blk.kept k_t hb (fun h => h)
    clear hb bW3 sW3
    clear HSE
    cases b2
    · have hse := dsees_any wAisle B N Ls p cap hL rb s i HI.out hi W4 (Below.kp HB.out hrb bW4) hrb k_R
      rw [NB3.out] at hse
      have HSE := Lib.hid hse
      clear hse
      go_wp2_with fail
      refine (HSE.out).mono ?_; rintro e W5 ⟨rfl, hb0⟩
      have hb : Kp (fun _ => False) W4 W5 := Kp.of_below hb0
      clear hb0
      have sW5 := Nat.le_trans sW4 hb.size
      have bW5 := (bW4).trans (Kp.mono hb (fun _ h => h.elim))
      replace k_R := Blk.kept k_R hb (fun h => h)
      replace k_l := Blk.kept k_l hb (fun h => h)
      replace k_t := Blk.kept k_t hb (fun h => h)
      clear hb bW4 sW4
      clear HSE
      cases b3
      · have hse := dsees_any wPillar B N Ls p cap hL rb s i HI.out hi W5 (Below.kp HB.out hrb bW5) hrb k_R
        rw [NB4.out] at hse
        have HSE := Lib.hid hse
        clear hse
        go_wp2_with fail
        refine (HSE.out).mono ?_; rintro e W6 ⟨rfl, hb0⟩
        have hb : Kp (fun _ => False) W5 W6 := Kp.of_below hb0
        clear hb0
        have sW6 := Nat.le_trans sW5 hb.size
        have bW6 := (bW5).trans (Kp.mono hb (fun _ h => h.elim))
        replace k_R := Blk.kept k_R hb (fun h => h)
        replace k_l := Blk.kept k_l hb (fun h => h)
        replace k_t := Blk.kept k_t hb (fun h => h)
        clear hb bW5 sW5
        clear HSE
        cases b4
        · have hse := dsees_any wDoor B N Ls p cap hL rb s i HI.out hi W6 (Below.kp HB.out hrb bW6) hrb k_R
          rw [NB5.out] at hse
          have HSE := Lib.hid hse
          clear hse
          go_wp2_with fail
          refine (HSE.out).mono ?_; rintro e W7 ⟨rfl, hb0⟩
          have hb : Kp (fun _ => False) W6 W7 := Kp.of_below hb0
          clear hb0
          have sW7 := Nat.le_trans sW6 hb.size
          have bW7 := (bW6).trans (Kp.mono hb (fun _ h => h.elim))
          replace k_R := Blk.kept k_R hb (fun h => h)
          replace k_l := Blk.kept k_l hb (fun h => h)
          replace k_t := Blk.kept k_t hb (fun h => h)
          clear hb bW6 sW6
          clear HSE
          cases b5
          · have hsort := sort_none NB1.out NB2.out NB3.out NB4.out NB5.out
            have h := HH.out
            unfold itemS at h
            rw [hsort, if_pos rfl] at h
            injection h with e1 e2
            subst e1
            have HF := Lib.hid e2
            clear hsort e2 HH
            go_wp2_with fail
            refine (dfail_any B N Ls p cap hL rb s i HI.out hi W7 (Below.kp HB.out hrb bW7) hrb k_R).mono ?_; rintro e W8 ⟨rfl, hr, hl_, hb⟩
            have sW8 := Nat.le_trans sW7 hb.size
            have bW8 := (bW7).trans hb
            replace k_R := hr
            replace k_l := Blk.kept k_l hb (by show ¬ _ = rb; omega)
            replace k_t := Blk.kept k_t hb (by show ¬ _ = rb; omega)
            clear hb hr bW7 sW7
            rw [HF.out] at hl_ k_R
            have HI9 := Lib.hid hl_
            clear hl_
            have hbad : rMust N sz wSemi = sz := must_bad (by rw [← HF.out]; exact rFail_bad s)
            have HBAD := Lib.hid hbad
            clear hbad
            go_wp2_with fail
            refine (dmust_c wSemi B N Ls p cap hL rb sz i HI9.out hi W8 (Below.kp HB.out hrb bW8) hrb k_R HBAD.out).mono ?_; rintro e W9 ⟨rfl, ⟨j18, hr, hl_, hi18⟩, hb⟩
            have sW9 := Nat.le_trans sW8 hb.size
            have bW9 := (bW8).trans hb
            replace k_R := hr
            replace k_l := Blk.kept k_l hb (by show ¬ _ = rb; omega)
            replace k_t := Blk.kept k_t hb (by show ¬ _ = rb; omega)
            clear hb hr bW8 sW8
            have HI18 := Lib.hid hl_
            clear hl_ HI9 hi
            have q_l0 := k_l.cell (i := 0) rfl
            have q_l1 := k_l.cell (i := 1) rfl
            have q_l2 := k_l.cell (i := 2) rfl
            have q_l3 := k_l.cell (i := 3) rfl
            have q_l4 := k_l.cell (i := 4) rfl
            have q_l5 := k_l.cell (i := 5) rfl
            have q_l6 := k_l.cell (i := 6) rfl
            have q_l7 := k_l.cell (i := 7) rfl
            have q_lf := k_l.free
            have q_t0 := k_t.cell (i := 0) rfl
            have q_t1 := k_t.cell (i := 1) rfl
            have q_t2 := k_t.cell (i := 2) rfl
            have q_t3 := k_t.cell (i := 3) rfl
            have q_t4 := k_t.cell (i := 4) rfl
            have q_t5 := k_t.cell (i := 5) rfl
            have q_t6 := k_t.cell (i := 6) rfl
            have q_t7 := k_t.cell (i := 7) rfl
            have q_tf := k_t.free
            go_wp2
            clear q_l0 q_l1 q_l2 q_l3 q_l4 q_l5 q_l6 q_l7 q_lf q_t0 q_t1 q_t2 q_t3 q_t4 q_t5 q_t6 q_t7 q_tf
            obtain ⟨W10, hW10, bW10, sW10, k2_R, k2_l, k2_t⟩ : ∃ xW, ((((((((W9.setCell ⟨w.heap.size + 1, 0, none⟩ (.string ⟨ln.toArray⟩)).setCell ⟨w.heap.size + 1, 1, none⟩ (.int .i64 (lh : Nat))).setCell ⟨w.heap.size + 1, 2, none⟩ (.slice a1 n1 c1)).setCell ⟨w.heap.size + 1, 3, none⟩ (.slice a2 n2 c2)).setCell ⟨w.heap.size + 1, 4, none⟩ (.slice a3 n3 c3)).setCell ⟨w.heap.size + 1, 5, none⟩ (.slice a4 n4 c4)).setCell ⟨w.heap.size + 1, 6, none⟩ (.slice a5 n5 c5)).setCell ⟨w.heap.size + 1, 7, none⟩ (.int .i64 (lp : Nat))) = xW ∧ Kp (onlyB rb) w xW ∧ W9.heap.size ≤ xW.heap.size ∧ Blk xW (rb) 57 [.slice p Ls.length cap, .int .i64 (j18 : Nat), .int .i64 (sz.err : Nat), .int .i64 (sz.pos : Nat), .int .i64 (N : Nat)] ∧ Blk xW (w.heap.size) 38 [.string ⟨ln.toArray⟩, .int .i64 (lh : Nat), .slice a1 n1 c1, .slice a2 n2 c2, .slice a3 n3 c3, .slice a4 n4 c4, .slice a5 n5 c5, .int .i64 (lp : Nat)] ∧ Blk xW (w.heap.size + 1) 38 [.string ⟨ln.toArray⟩, .int .i64 (lh : Nat), .slice a1 n1 c1, .slice a2 n2 c2, .slice a3 n3 c3, .slice a4 n4 c4, .slice a5 n5 c5, .int .i64 (lp : Nat)] := ⟨_, rfl, (Kp.s4 (Kp.s4 bW9 (Or.inr (by omega))) (Or.inr (by omega))), by simp only [World.setCell, World.size_alloc, Array.size_modify, Nat.le_refl], (Blk.o4 (Blk.o4 k_R (by omega)) (by omega)), (Blk.o4 (Blk.o4 k_l (by omega)) (by omega)), (Blk.cast (Blk.set (Blk.set (Blk.set (Blk.set (Blk.set (Blk.set (Blk.set (Blk.set k_t 0 _) 1 _) 2 _) 3 _) 4 _) 5 _) 6 _) 7 _) rfl)⟩
            rw [hW10]
            clear hW10 k_R k_l k_t
            have k_R := k2_R
            have k_l := k2_l
            have k_t := k2_t
            clear k2_R k2_l k2_t
            have hres := (H5.out.mono (G' := fun k => k < w.heap.size) (fun k hk _ => hk)).kept (Kp.mono bW10 (fun k hk => hk)) (fun k hk => Or.inl (by have e : k = rb := hk; omega))
            exact bodyPost_ret (results_cell_mid rfl _ _ (w.heap.size + 1) _ _ rfl k_t.range Tryz.underlying38 rfl (by kernel_rfl)) rfl ⟨⟨_, _, _, _, _, rfl, by rw [List.append_nil]; exact hres.mono (fun _ _ _ => trivial)⟩, ⟨j18, k_R, HI18.out, hi18⟩, Kp.mono bW10 (fun k hk => Or.inl hk)⟩
          · have hsort : sortS s = 5 := by unfold sortS; rw [if_neg (by rw [NB1.out]; simp)]; rw [if_neg (by rw [NB2.out]; simp)]; rw [if_neg (by rw [NB3.out]; simp)]; rw [if_neg (by rw [NB4.out]; simp)]; rw [if_pos NB5.out]
            obtain ⟨_, tt, rr, hlt_, _⟩ := sees_true NB5.out
            have hdr : Ls.drop i = tt :: rr := HI.out.symm.trans hlt_
            have hig1 : i < Ls.length := by
              rcases Nat.lt_or_ge i Ls.length with h | h
              · exact h
              · rw [List.drop_eq_nil_of_le h] at hdr; cases hdr
            obtain ⟨s0, h15⟩ : ∃ z, rNext s = z := ⟨_, rfl⟩
            have h := HH.out
            unfold itemS at h
            rw [hsort, if_neg (by decide), NA.out, h15] at h
            injection h with e1 e2
            have HS0 : Hid (SaneS s0) := Lib.hid (HS.out.suf (by rw [← h15]; exact next_suf s))
            have HI0 : Hid (s0.left = Ls.drop (i + 1)) := Lib.hid (by rw [← h15]; unfold rNext; rw [hlt_]; exact drop_next hdr)
            have HE0 : Hid (s0.err = s.err ∧ s0.pos = s.pos) := Lib.hid (by rw [← h15]; exact ⟨rfl, rfl⟩)
            have hi0 : i + 1 ≤ Ls.length := hig1
            obtain ⟨⟨im, sq⟩, hrest⟩ : ∃ z, restS N 5 aa s0 = z := ⟨_, rfl⟩
            rw [hrest] at e1 e2
            dsimp only at e1 e2
            subst e1 e2
            clear hsort hlt_ hdr h15 HH HS
            obtain ⟨⟨px, s4⟩, q1⟩ : ∃ z, numS N s0 = z := ⟨_, rfl⟩
            obtain ⟨⟨py, s5⟩, q2⟩ : ∃ z, numS N s4 = z := ⟨_, rfl⟩
            obtain ⟨s6, q3⟩ : ∃ z, rMust N s5 wSemi = z := ⟨_, rfl⟩
            unfold restS at hrest
            rw [if_neg (by decide)] at hrest
            rw [if_neg (by decide)] at hrest
            rw [if_neg (by decide)] at hrest
            rw [if_neg (by decide)] at hrest
            simp only [blockS, areaS, pointS, bindS, retS, mustS, manyS, q1, q2, q3] at hrest
            injection hrest with e1 e2
            subst e1 e2
            have N_q1 := Lib.hid q1; have N_q2 := Lib.hid q2; have N_q3 := Lib.hid q3
            clear q1 q2 q3
            have q_R0 := k_R.cell (i := 0) rfl
            have q_R1 := k_R.cell (i := 1) rfl
            have q_R2 := k_R.cell (i := 2) rfl
            have q_R3 := k_R.cell (i := 3) rfl
            have q_R4 := k_R.cell (i := 4) rfl
            have q_Rf := k_R.free
            go_upto_region 25 with fail
            clear q_R0 q_R1 q_R2 q_R3 q_R4 q_Rf
            obtain ⟨W8, hW8, bW8, sW8, k2_R, k2_l, k2_t⟩ : ∃ xW, (W7.setCell ⟨rb, 1, none⟩ (.int .i64 ((i : Int) + 1))) = xW ∧ Kp (onlyB rb) w xW ∧ W7.heap.size ≤ xW.heap.size ∧ Blk xW (rb) 57 [.slice p Ls.length cap, .int .i64 ((i : Int) + 1), .int .i64 (s.err : Nat), .int .i64 (s.pos : Nat), .int .i64 (N : Nat)] ∧ Blk xW (w.heap.size) 38 [.string ⟨ln.toArray⟩, .int .i64 (lh : Nat), .slice a1 n1 c1, .slice a2 n2 c2, .slice a3 n3 c3, .slice a4 n4 c4, .slice a5 n5 c5, .int .i64 (lp : Nat)] ∧ Blk xW (w.heap.size + 1) 38 [.string ⟨#[]⟩, .int .i64 0, .slice none 0 0, .slice none 0 0, .slice none 0 0, .slice none 0 0, .slice none 0 0, .int .i64 0] := ⟨_, rfl, (Kp.s1 bW7 (Or.inl rfl)), by simp only [World.setCell, World.size_alloc, Array.size_modify, Nat.le_refl], (Blk.cast (Blk.set k_R 1 _) rfl), (Blk.o1 k_l (by omega)), (Blk.o1 k_t (by omega))⟩
            rw [hW8]
            clear hW8 k_R k_l k_t
            have k_R := k2_R
            have k_l := k2_l
            have k_t := k2_t
            clear k2_R k2_l k2_t
            replace k_R : Blk W8 rb 57 [.slice p Ls.length cap, .int .i64 ((i + 1) : Nat), .int .i64 (s0.err : Nat), .int .i64 (s0.pos : Nat), .int .i64 (N : Nat)] := by rw [HE0.out.1, HE0.out.2]; exact k_R
            go_wp2_with fail
            refine (dnum_c B N Ls p cap hL rb s0 (i + 1) HI0.out hi0 W8 (Below.kp HB.out hrb bW8) hrb k_R N_q1.out).mono ?_; rintro e W9 ⟨rfl, ⟨j15, hr, hl_, hi15⟩, hb⟩
            have sW9 := Nat.le_trans sW8 hb.size
            have bW9 := (bW8).trans hb
            replace k_R := hr
            replace k_l := Blk.kept k_l hb (by show ¬ _ = rb; omega)
            replace k_t := Blk.kept k_t hb (by show ¬ _ = rb; omega)
            clear hb hr bW8 sW8
            have HI15 := Lib.hid hl_
            clear hl_ HI0 hi0
            go_upto_region 26 with fail
            have kpW9 : Kp (onlyB rb) w W9 := bW9
            replace bW9 : Kp (E5 rb base) w W9 := Kp.mono bW9 (fun k h => Or.inl h)
            refine wp_region_any (by kernel_rfl) ?_
            refine Foyer.Round.any_of_held (S := fun W => Blk W (w.heap.size) 38 [.string ⟨ln.toArray⟩, .int .i64 (lh : Nat), .slice a1 n1 c1, .slice a2 n2 c2, .slice a3 n3 c3, .slice a4 n4 c4, .slice a5 n5 c5, .int .i64 (lp : Nat)] ∧ Kp (E5 rb base) w W) (N := [9]) _ _ _ _ ?_
            change Foyer.Round.held _ _ _ _ _ _ _ _ _ W9.drew
            obtain ⟨W10, hW10⟩ : ∃ x, W9.drew = x := ⟨_, rfl⟩
            have bW10 : Kp (E5 rb base) w W10 := by rw [← hW10]; exact Kp.drew bW9
            have sW10 := sW9
            rw [show W9.heap.size = W10.heap.size from by rw [← hW10]; rfl] at sW10
            replace k_R : Blk W10 (rb) 57 [.slice p Ls.length cap, .int .i64 (j15 : Nat), .int .i64 (s4.err : Nat), .int .i64 (s4.pos : Nat), .int .i64 (N : Nat)] := by rw [← hW10]; exact k_R
            replace k_l : Blk W10 (w.heap.size) 38 [.string ⟨ln.toArray⟩, .int .i64 (lh : Nat), .slice a1 n1 c1, .slice a2 n2 c2, .slice a3 n3 c3, .slice a4 n4 c4, .slice a5 n5 c5, .int .i64 (lp : Nat)] := by rw [← hW10]; exact k_l
            replace k_t : Blk W10 (w.heap.size + 1) 38 [.string ⟨#[]⟩, .int .i64 0, .slice none 0 0, .slice none 0 0, .slice none 0 0, .slice none 0 0, .slice none 0 0, .int .i64 0] := by rw [← hW10]; exact k_t
            have kpW10 : Kp (onlyB rb) w W10 := by rw [← hW10]; exact Kp.drew (kpW9)
            rw [hW10]
            clear hW10 bW9 sW9
            refine Foyer.Round.held_take [1, 7, 9] (i := 0) (v := .pointer (some ⟨w.heap.size, 6, none⟩)) rfl (by kernel_rfl) (fun _ _ _ h => h) (Or.inl ⟨by rfl, fun w' hS => by go_simp⟩) (⟨k_l, bW10⟩) ?_
            try simp only [Act.put, List.setIfInBounds_toArray, List.set_cons_zero, List.set_cons_succ]
            refine Foyer.Round.held_take [7, 9] (i := 1) (v := .slice a5 n5 c5) rfl (by kernel_rfl) (fun _ _ _ h => h) (Or.inl ⟨by rfl, fun w' hS => by have r_l0 := (show Blk _ _ _ _ from hS.1).cell (i := 0) rfl; have r_l1 := (show Blk _ _ _ _ from hS.1).cell (i := 1) rfl; have r_l2 := (show Blk _ _ _ _ from hS.1).cell (i := 2) rfl; have r_l3 := (show Blk _ _ _ _ from hS.1).cell (i := 3) rfl; have r_l4 := (show Blk _ _ _ _ from hS.1).cell (i := 4) rfl; have r_l5 := (show Blk _ _ _ _ from hS.1).cell (i := 5) rfl; have r_l6 := (show Blk _ _ _ _ from hS.1).cell (i := 6) rfl; have r_l7 := (show Blk _ _ _ _ from hS.1).cell (i := 7) rfl; go_simp⟩) (⟨k_l, bW10⟩) ?_
            try simp only [Act.put, List.setIfInBounds_toArray, List.set_cons_zero, List.set_cons_succ]
            refine Foyer.Round.held_take [5, 6, 7, 9] (i := 2) (v := .int .i64 (px : Nat)) rfl (by kernel_rfl) (fun _ _ _ h => h) (Or.inl ⟨by rfl, fun w' hS => by go_simp⟩) (⟨k_l, bW10⟩) ?_
            try simp only [Act.put, List.setIfInBounds_toArray, List.set_cons_zero, List.set_cons_succ]
            refine Foyer.Round.held_take [4, 5, 6, 7, 9] (i := 3) (v := .pointer (some ⟨rb, 0, none⟩)) rfl (by kernel_rfl) (fun _ _ _ h => h) (Or.inl ⟨by rfl, fun w' hS => by go_simp⟩) (⟨k_l, bW10⟩) ?_
            try simp only [Act.put, List.setIfInBounds_toArray, List.set_cons_zero, List.set_cons_succ]
            refine Foyer.Round.held_one (i := 4) rfl (by kernel_rfl) (fun K hK => ?_)
            go_simp
            refine (dnum_c B N Ls p cap hL rb s4 j15 HI15.out hi15 W10 (Below.kp5 HB.out hrb hbs bW10) hrb k_R N_q2.out).mono ?_; rintro e W11 ⟨rfl, ⟨j16, hr, hl_, hi16⟩, hb⟩
            have sW11 := Nat.le_trans sW10 hb.size
            have bW11 := (bW10).trans (Kp.mono hb (fun k h => Or.inl h))
            replace k_R := hr
            replace k_l := Blk.kept k_l hb (by show ¬ _ = rb; omega)
            replace k_t := Blk.kept k_t hb (by show ¬ _ = rb; omega)
            have kpW11 := (kpW10).trans (Kp.mono hb (fun k hk => hk))
            clear hb hr bW10 sW10
            have HI16 := Lib.hid hl_
            clear hl_
            refine hK.out _ _ (fun _ => ⟨k_l, bW11⟩) ?_
            clear hK K
            try simp only [Act.put, List.setIfInBounds_toArray, List.set_cons_zero, List.set_cons_succ]
            refine Foyer.Round.held_take [6, 7, 9] (i := 5) (v := .agg #[.int .i64 (px : Nat), .int .i64 (py : Nat)]) rfl (by kernel_rfl) (fun _ _ _ h => h) (Or.inl ⟨by rfl, fun w' hS => by go_simp⟩) (⟨k_l, bW11⟩) ?_
            try simp only [Act.put, List.setIfInBounds_toArray, List.set_cons_zero, List.set_cons_succ]
            have h5 := (H5.out.mono (G' := fun k => k < w.heap.size ∨ W11.heap.size ≤ k) (fun k hk _ => Or.inl hk)).kept kpW11 (fun k hk => Or.inl (by have e : k = rb := hk; omega))
            have hold : ∀ v ∈ [Value.slice a1 n1 c1, Value.slice a2 n2 c2, Value.slice a3 n3 c3, Value.slice a4 n4 c4, Value.slice a5 n5 c5], ∀ k, v.ownBlock = some k → k < W11.heap.size := fun v hv k hk => by have := (H5.out.lt v hv k hk).2; omega
            obtain ⟨css, hcon, hall⟩ := h5.b5
            have hown : ∀ k, (Value.slice a5 n5 c5).ownBlock = some k → base ≤ k ∧ k < W11.heap.size := fun k hk => own_lt hcon.own hk
            obtain ⟨i0, hi0_, hz0, hz1, hz2⟩ := info_parts6 item5_info
            have hc : pointK.is W11 (fun k => W11.heap.size ≤ k) [.int .i64 (px : Nat), .int .i64 (py : Nat)] ((px, py) : Nat × Nat) := rfl
            have hNW : w.heap.size + 2 ≤ W11.heap.size ∧ W11.heap.size ≤ W11.heap.size := by omega
            have HI0_ := Lib.hid hi0_; have HZ0 := Lib.hid hz0; have HZ1 := Lib.hid hz1; have HZ2 := Lib.hid hz2; have HCON := Lib.hid hcon; have HALL := Lib.hid hall; have HOW := Lib.hid hown; have HC := Lib.hid hc; have HL5 := Lib.hid h5; have HOLD := Lib.hid hold
            have HXL : Hid (css.length + 1 ≤ 1000000) := Lib.hid (by rw [All2.length HALL.out, HNL.out.2.2.2.2]; have := HNN.out; omega)
            clear hi0_ hz0 hz1 hz2 hcon hall hown hc h5 hold
            clear kpW11
            refine Foyer.Round.held_one (i := 6) rfl (by kernel_rfl) (fun K hK => ?_)
            go_simp
            refine hK.out _ _ (fun _ => ⟨k_l.alloc _, Kp.alloc bW11 _⟩) ?_
            clear hK K
            try simp only [Act.put, List.setIfInBounds_toArray, List.set_cons_zero, List.set_cons_succ]
            refine Foyer.Round.held_one (i := 7) rfl (by kernel_rfl) (fun K hK => ?_)
            rw [if_pos (by kernel_rfl)]
            refine con_append (t := 36) (T := 24) (m := pointK.size) (B := base) Tryz.underlying36 HI0_.out HZ0.out HZ1.out HZ2.out rfl (by decide) (by decide) (.tmp 122) (.tmp 127) rfl _ css [.int .i64 (px : Nat), .int .i64 (py : Nat)] rfl (HCON.out.of_block (fun k hk => Below.heap_alloc _ _ _ (HOW.out k hk).2)) W11.heap.size rfl (Blk.new W11 24 [.int .i64 (px : Nat), .int .i64 (py : Nat)]) (pointK.len HC.out) (pointK.one HC.out) HXL.out (by rw [World.size_alloc]; omega) ?_
            intro v' Wa hcon' hg hat hone
            have hgr : ∀ k, k < W11.heap.size → (Value.slice a5 n5 c5).ownBlock ≠ some k → Wa.heap[k]? = W11.heap[k]? := fun k hk hn => (hg.block k (by rw [World.size_alloc]; omega) (fun h => hn h.symm)).trans (Below.heap_alloc _ _ _ hk); have A5 := Lib.hid (HL5.out.door (N := W11.heap.size) (M := (W11.alloc (.cells ([.int .i64 (px : Nat), .int .i64 (py : Nat)] : List Value).toArray 24)).heap.size) HALL.out HC.out (by omega) (fun k hk => Or.inr hk) HOLD.out hcon' hgr hat (by rw [World.size_alloc]; omega) (by rw [World.size_alloc]; omega)); have F_R := Lib.hid ((hgr rb k_R.lt (fun e => by have h3 := (HOW.out rb e).1; omega)).trans k_R); have F_l := Lib.hid ((hgr _ k_l.lt (fun e => by have h4 := (H5.out.lt (Value.slice a5 n5 c5) (by simp) _ e).2; omega)).trans k_l); have F_t := Lib.hid ((hgr _ k_t.lt (fun e => by have h4 := (H5.out.lt (Value.slice a5 n5 c5) (by simp) _ e).2; omega)).trans k_t); have FB : Hid (Kp (E5 rb base) w Wa) := Lib.hid ((bW11.alloc (.cells ([.int .i64 (px : Nat), .int .i64 (py : Nat)] : List Value).toArray 24)).grown hg (fun k hk => Or.inl (Or.inr (HOW.out k hk).1))); have FZ : Hid (W11.heap.size + 1 ≤ Wa.heap.size) := Lib.hid (by have := hg.size; rw [World.size_alloc] at this; exact this); have hvl : ∃ a c, v' = .slice a (n5 + 1) c := (by obtain ⟨a, c, e⟩ := A5.out.b5.len6; refine ⟨a, c, ?_⟩; rw [e]; congr 1; unfold doorsOf; rw [List.filterMap_append, List.length_append]; have hx := HNL.out.2.2.2.2; unfold doorsOf at hx; rw [hx]; rfl); obtain ⟨va, vc, hv'⟩ := hvl; subst hv'; clear hcon' hg hat hone hgr; have z_l := (show Blk Wa _ _ _ from F_l.out).cell (i := 6) rfl; have z_lf := (show Blk Wa _ _ _ from F_l.out).free
            refine hK.out _ _ (fun _ => ⟨F_l.out, FB.out⟩) ?_
            clear hK K
            try simp only [Act.put, List.setIfInBounds_toArray, List.set_cons_zero, List.set_cons_succ]
            clear k_R k_l k_t
            try clear z_l
            try clear z_lf
            have k_R : Blk Wa (rb) 57 [.slice p Ls.length cap, .int .i64 (j16 : Nat), .int .i64 (s5.err : Nat), .int .i64 (s5.pos : Nat), .int .i64 (N : Nat)] := F_R.out
            have k_l : Blk Wa (w.heap.size) 38 [.string ⟨ln.toArray⟩, .int .i64 (lh : Nat), .slice a1 n1 c1, .slice a2 n2 c2, .slice a3 n3 c3, .slice a4 n4 c4, .slice a5 n5 c5, .int .i64 (lp : Nat)] := F_l.out
            have k_t : Blk Wa (w.heap.size + 1) 38 [.string ⟨#[]⟩, .int .i64 0, .slice none 0 0, .slice none 0 0, .slice none 0 0, .slice none 0 0, .slice none 0 0, .int .i64 0] := F_t.out
            have bWa := FB.out
            have sWa := FZ.out
            clear bW11 FB FZ F_R F_l F_t H5 HL5 HOLD HALL HCON HOW HC HXL HI0_ HZ0 HZ1 HZ2
            refine Foyer.Round.held_take [9] (i := 8) (v := .pointer (some ⟨w.heap.size, 6, none⟩)) rfl (by kernel_rfl) (fun _ _ _ h => h) (Or.inl ⟨by rfl, fun w' hS => by go_simp⟩) (⟨k_l, bWa⟩) ?_
            try simp only [Act.put, List.setIfInBounds_toArray, List.set_cons_zero, List.set_cons_succ]
            have q_l0 := k_l.cell (i := 0) rfl
            have q_l1 := k_l.cell (i := 1) rfl
            have q_l2 := k_l.cell (i := 2) rfl
            have q_l3 := k_l.cell (i := 3) rfl
            have q_l4 := k_l.cell (i := 4) rfl
            have q_l5 := k_l.cell (i := 5) rfl
            have q_l6 := k_l.cell (i := 6) rfl
            have q_l7 := k_l.cell (i := 7) rfl
            have q_lf := k_l.free
            refine Foyer.Round.held_one (i := 9) rfl (by kernel_rfl) (fun K hK => ?_)
            go_simp
            clear q_l0 q_l1 q_l2 q_l3 q_l4 q_l5 q_l6 q_l7 q_lf
            obtain ⟨W12, hW12, bW12, sW12, kpW12, k2_R, k2_l, k2_t⟩ : ∃ xW, (Wa.setCell ⟨w.heap.size, 6, none⟩ (.slice va (n5 + 1) vc)) = xW ∧ Kp (E5 rb base) w xW ∧ Wa.heap.size ≤ xW.heap.size ∧ Kp (fun k => k < base ∨ (w.heap.size ≤ k ∧ k < W11.heap.size)) Wa xW ∧ Blk xW (rb) 57 [.slice p Ls.length cap, .int .i64 (j16 : Nat), .int .i64 (s5.err : Nat), .int .i64 (s5.pos : Nat), .int .i64 (N : Nat)] ∧ Blk xW (w.heap.size) 38 [.string ⟨ln.toArray⟩, .int .i64 (lh : Nat), .slice a1 n1 c1, .slice a2 n2 c2, .slice a3 n3 c3, .slice a4 n4 c4, .slice va (n5 + 1) vc, .int .i64 (lp : Nat)] ∧ Blk xW (w.heap.size + 1) 38 [.string ⟨#[]⟩, .int .i64 0, .slice none 0 0, .slice none 0 0, .slice none 0 0, .slice none 0 0, .slice none 0 0, .int .i64 0] := ⟨_, rfl, (Kp.s1 bWa (Or.inr (by omega))), by simp only [World.setCell, World.size_alloc, Array.size_modify, Nat.le_refl], (Kp.s1 (Kp.refl _ _) (Or.inl (show w.heap.size < base ∨ (w.heap.size ≤ w.heap.size ∧ w.heap.size < W11.heap.size) by omega))), (Blk.o1 k_R (by omega)), (Blk.cast (Blk.set k_l 6 _) rfl), (Blk.o1 k_t (by omega))⟩
            rw [hW12]
            clear hW12 k_R k_l k_t
            have k_R := k2_R
            have k_l := k2_l
            have k_t := k2_t
            clear k2_R k2_l k2_t
            refine hK.out _ _ (fun h => (h (by simp)).elim) ?_
            clear hK K
            try simp only [Act.put, List.setIfInBounds_toArray, List.set_cons_zero, List.set_cons_succ]
            refine Foyer.Round.held_done (by kernel_rfl) ?_ _
            go_upto_region 28 with fail
            go_wp2_with fail
            refine (dmust_c wSemi B N Ls p cap hL rb s5 j16 HI16.out hi16 W12 (Below.kp5 HB.out hrb hbs bW12) hrb k_R N_q3.out).mono ?_; rintro e W13 ⟨rfl, ⟨j17, hr, hl_, hi17⟩, hb⟩
            have sW13 := Nat.le_trans sW12 hb.size
            have bW13 := (bW12).trans (Kp.mono hb (fun k h => Or.inl h))
            replace k_R := hr
            replace k_l := Blk.kept k_l hb (by show ¬ _ = rb; omega)
            replace k_t := Blk.kept k_t hb (by show ¬ _ = rb; omega)
            have kpW13 := (kpW12).trans (Kp.mono hb (fun k hk => by have e : k = rb := hk; show k < base ∨ _; omega))
            clear hb hr bW12 sW12
            have HI17 := Lib.hid hl_
            clear hl_ HI16 hi16
            have q_l0 := k_l.cell (i := 0) rfl
            have q_l1 := k_l.cell (i := 1) rfl
            have q_l2 := k_l.cell (i := 2) rfl
            have q_l3 := k_l.cell (i := 3) rfl
            have q_l4 := k_l.cell (i := 4) rfl
            have q_l5 := k_l.cell (i := 5) rfl
            have q_l6 := k_l.cell (i := 6) rfl
            have q_l7 := k_l.cell (i := 7) rfl
            have q_lf := k_l.free
            have q_t0 := k_t.cell (i := 0) rfl
            have q_t1 := k_t.cell (i := 1) rfl
            have q_t2 := k_t.cell (i := 2) rfl
            have q_t3 := k_t.cell (i := 3) rfl
            have q_t4 := k_t.cell (i := 4) rfl
            have q_t5 := k_t.cell (i := 5) rfl
            have q_t6 := k_t.cell (i := 6) rfl
            have q_t7 := k_t.cell (i := 7) rfl
            have q_tf := k_t.free
            go_wp2
            clear q_l0 q_l1 q_l2 q_l3 q_l4 q_l5 q_l6 q_l7 q_lf q_t0 q_t1 q_t2 q_t3 q_t4 q_t5 q_t6 q_t7 q_tf
            obtain ⟨W14, hW14, bW14, sW14, kpW14, k2_R, k2_l, k2_t⟩ : ∃ xW, ((((((((W13.setCell ⟨w.heap.size + 1, 0, none⟩ (.string ⟨ln.toArray⟩)).setCell ⟨w.heap.size + 1, 1, none⟩ (.int .i64 (lh : Nat))).setCell ⟨w.heap.size + 1, 2, none⟩ (.slice a1 n1 c1)).setCell ⟨w.heap.size + 1, 3, none⟩ (.slice a2 n2 c2)).setCell ⟨w.heap.size + 1, 4, none⟩ (.slice a3 n3 c3)).setCell ⟨w.heap.size + 1, 5, none⟩ (.slice a4 n4 c4)).setCell ⟨w.heap.size + 1, 6, none⟩ (.slice va (n5 + 1) vc)).setCell ⟨w.heap.size + 1, 7, none⟩ (.int .i64 (lp : Nat))) = xW ∧ Kp (E5 rb base) w xW ∧ W13.heap.size ≤ xW.heap.size ∧ Kp (fun k => k < base ∨ (w.heap.size ≤ k ∧ k < W11.heap.size)) Wa xW ∧ Blk xW (rb) 57 [.slice p Ls.length cap, .int .i64 (j17 : Nat), .int .i64 (s6.err : Nat), .int .i64 (s6.pos : Nat), .int .i64 (N : Nat)] ∧ Blk xW (w.heap.size) 38 [.string ⟨ln.toArray⟩, .int .i64 (lh : Nat), .slice a1 n1 c1, .slice a2 n2 c2, .slice a3 n3 c3, .slice a4 n4 c4, .slice va (n5 + 1) vc, .int .i64 (lp : Nat)] ∧ Blk xW (w.heap.size + 1) 38 [.string ⟨ln.toArray⟩, .int .i64 (lh : Nat), .slice a1 n1 c1, .slice a2 n2 c2, .slice a3 n3 c3, .slice a4 n4 c4, .slice va (n5 + 1) vc, .int .i64 (lp : Nat)] := ⟨_, rfl, (Kp.s4 (Kp.s4 bW13 (Or.inr (by omega))) (Or.inr (by omega))), by simp only [World.setCell, World.size_alloc, Array.size_modify, Nat.le_refl], (Kp.s4 (Kp.s4 kpW13 (Or.inl (show w.heap.size + 1 < base ∨ (w.heap.size ≤ w.heap.size + 1 ∧ w.heap.size + 1 < W11.heap.size) by omega))) (Or.inl (show w.heap.size + 1 < base ∨ (w.heap.size ≤ w.heap.size + 1 ∧ w.heap.size + 1 < W11.heap.size) by omega))), (Blk.o4 (Blk.o4 k_R (by omega)) (by omega)), (Blk.o4 (Blk.o4 k_l (by omega)) (by omega)), (Blk.cast (Blk.set (Blk.set (Blk.set (Blk.set (Blk.set (Blk.set (Blk.set (Blk.set k_t 0 _) 1 _) 2 _) 3 _) 4 _) 5 _) 6 _) 7 _) rfl)⟩
            rw [hW14]
            clear hW14 k_R k_l k_t
            have k_R := k2_R
            have k_l := k2_l
            have k_t := k2_t
            clear k2_R k2_l k2_t
            exact bodyPost_ret (results_cell_mid rfl _ _ (w.heap.size + 1) _ _ rfl k_t.range Tryz.underlying38 rfl (by kernel_rfl)) rfl ⟨⟨_, _, _, _, _, rfl, (A5.out.kept kpW14 (fun k hk => by rcases hk with h1 | h1 <;> first | exact Or.inl h1 | (right; show ¬ (k < w.heap.size ∨ W11.heap.size ≤ k); omega))).mono (fun _ _ _ => trivial)⟩, ⟨j17, k_R, HI17.out, hi17⟩, bW14⟩
        · have hsort : sortS s = 4 := by unfold sortS; rw [if_neg (by rw [NB1.out]; simp)]; rw [if_neg (by rw [NB2.out]; simp)]; rw [if_neg (by rw [NB3.out]; simp)]; rw [if_pos NB4.out]
          obtain ⟨_, tt, rr, hlt_, _⟩ := sees_true NB4.out
          have hdr : Ls.drop i = tt :: rr := HI.out.symm.trans hlt_
          have hig1 : i < Ls.length := by
            rcases Nat.lt_or_ge i Ls.length with h | h
            · exact h
            · rw [List.drop_eq_nil_of_le h] at hdr; cases hdr
          obtain ⟨s0, h15⟩ : ∃ z, rNext s = z := ⟨_, rfl⟩
          have h := HH.out
          unfold itemS at h
          rw [hsort, if_neg (by decide), NA.out, h15] at h
          injection h with e1 e2
          have HS0 : Hid (SaneS s0) := Lib.hid (HS.out.suf (by rw [← h15]; exact next_suf s))
          have HI0 : Hid (s0.left = Ls.drop (i + 1)) := Lib.hid (by rw [← h15]; unfold rNext; rw [hlt_]; exact drop_next hdr)
          have HE0 : Hid (s0.err = s.err ∧ s0.pos = s.pos) := Lib.hid (by rw [← h15]; exact ⟨rfl, rfl⟩)
          have hi0 : i + 1 ≤ Ls.length := hig1
          obtain ⟨⟨im, sq⟩, hrest⟩ : ∃ z, restS N 4 aa s0 = z := ⟨_, rfl⟩
          rw [hrest] at e1 e2
          dsimp only at e1 e2
          subst e1 e2
          clear hsort hlt_ hdr h15 HH HS
          obtain ⟨⟨bx, s5⟩, q1⟩ : ∃ z, boxS N s0 = z := ⟨_, rfl⟩
          obtain ⟨s6, q5⟩ : ∃ z, rMust N s5 wSemi = z := ⟨_, rfl⟩
          unfold restS at hrest
          rw [if_neg (by decide)] at hrest
          rw [if_neg (by decide)] at hrest
          rw [if_neg (by decide)] at hrest
          rw [if_pos rfl] at hrest
          simp only [blockS, areaS, pointS, bindS, retS, mustS, manyS, q1, q5] at hrest
          injection hrest with e1 e2
          subst e1 e2
          have N_q1 := Lib.hid q1; have N_q5 := Lib.hid q5
          clear q1 q5
          have q_R0 := k_R.cell (i := 0) rfl
          have q_R1 := k_R.cell (i := 1) rfl
          have q_R2 := k_R.cell (i := 2) rfl
          have q_R3 := k_R.cell (i := 3) rfl
          have q_R4 := k_R.cell (i := 4) rfl
          have q_Rf := k_R.free
          go_upto_region 22 with fail
          clear q_R0 q_R1 q_R2 q_R3 q_R4 q_Rf
          obtain ⟨W7, hW7, bW7, sW7, k2_R, k2_l, k2_t⟩ : ∃ xW, (W6.setCell ⟨rb, 1, none⟩ (.int .i64 ((i : Int) + 1))) = xW ∧ Kp (onlyB rb) w xW ∧ W6.heap.size ≤ xW.heap.size ∧ Blk xW (rb) 57 [.slice p Ls.length cap, .int .i64 ((i : Int) + 1), .int .i64 (s.err : Nat), .int .i64 (s.pos : Nat), .int .i64 (N : Nat)] ∧ Blk xW (w.heap.size) 38 [.string ⟨ln.toArray⟩, .int .i64 (lh : Nat), .slice a1 n1 c1, .slice a2 n2 c2, .slice a3 n3 c3, .slice a4 n4 c4, .slice a5 n5 c5, .int .i64 (lp : Nat)] ∧ Blk xW (w.heap.size + 1) 38 [.string ⟨#[]⟩, .int .i64 0, .slice none 0 0, .slice none 0 0, .slice none 0 0, .slice none 0 0, .slice none 0 0, .int .i64 0] := ⟨_, rfl, (Kp.s1 bW6 (Or.inl rfl)), by simp only [World.setCell, World.size_alloc, Array.size_modify, Nat.le_refl], (Blk.cast (Blk.set k_R 1 _) rfl), (Blk.o1 k_l (by omega)), (Blk.o1 k_t (by omega))⟩
          rw [hW7]
          clear hW7 k_R k_l k_t
          have k_R := k2_R
          have k_l := k2_l
          have k_t := k2_t
          clear k2_R k2_l k2_t
          replace k_R : Blk W7 rb 57 [.slice p Ls.length cap, .int .i64 ((i + 1) : Nat), .int .i64 (s0.err : Nat), .int .i64 (s0.pos : Nat), .int .i64 (N : Nat)] := by rw [HE0.out.1, HE0.out.2]; exact k_R
          have kpW7 : Kp (onlyB rb) w W7 := bW7
          replace bW7 : Kp (E5 rb base) w W7 := Kp.mono bW7 (fun k h => Or.inl h)
          refine wp_region_any (by kernel_rfl) ?_
          refine Foyer.Round.any_of_held (S := fun W => Blk W (w.heap.size) 38 [.string ⟨ln.toArray⟩, .int .i64 (lh : Nat), .slice a1 n1 c1, .slice a2 n2 c2, .slice a3 n3 c3, .slice a4 n4 c4, .slice a5 n5 c5, .int .i64 (lp : Nat)] ∧ Kp (E5 rb base) w W) (N := [7]) _ _ _ _ ?_
          change Foyer.Round.held _ _ _ _ _ _ _ _ _ W7.drew
          obtain ⟨W8, hW8⟩ : ∃ x, W7.drew = x := ⟨_, rfl⟩
          have bW8 : Kp (E5 rb base) w W8 := by rw [← hW8]; exact Kp.drew bW7
          have sW8 := sW7
          rw [show W7.heap.size = W8.heap.size from by rw [← hW8]; rfl] at sW8
          replace k_R : Blk W8 (rb) 57 [.slice p Ls.length cap, .int .i64 ((i + 1) : Nat), .int .i64 (s0.err : Nat), .int .i64 (s0.pos : Nat), .int .i64 (N : Nat)] := by rw [← hW8]; exact k_R
          replace k_l : Blk W8 (w.heap.size) 38 [.string ⟨ln.toArray⟩, .int .i64 (lh : Nat), .slice a1 n1 c1, .slice a2 n2 c2, .slice a3 n3 c3, .slice a4 n4 c4, .slice a5 n5 c5, .int .i64 (lp : Nat)] := by rw [← hW8]; exact k_l
          replace k_t : Blk W8 (w.heap.size + 1) 38 [.string ⟨#[]⟩, .int .i64 0, .slice none 0 0, .slice none 0 0, .slice none 0 0, .slice none 0 0, .slice none 0 0, .int .i64 0] := by rw [← hW8]; exact k_t
          have kpW8 : Kp (onlyB rb) w W8 := by rw [← hW8]; exact Kp.drew (kpW7)
          rw [hW8]
          clear hW8 bW7 sW7
          refine Foyer.Round.held_take [1, 5, 7] (i := 0) (v := .pointer (some ⟨w.heap.size, 5, none⟩)) rfl (by kernel_rfl) (fun _ _ _ h => h) (Or.inl ⟨by rfl, fun w' hS => by go_simp⟩) (⟨k_l, bW8⟩) ?_
          try simp only [Act.put, List.setIfInBounds_toArray, List.set_cons_zero, List.set_cons_succ]
          refine Foyer.Round.held_take [5, 7] (i := 1) (v := .slice a4 n4 c4) rfl (by kernel_rfl) (fun _ _ _ h => h) (Or.inl ⟨by rfl, fun w' hS => by have r_l0 := (show Blk _ _ _ _ from hS.1).cell (i := 0) rfl; have r_l1 := (show Blk _ _ _ _ from hS.1).cell (i := 1) rfl; have r_l2 := (show Blk _ _ _ _ from hS.1).cell (i := 2) rfl; have r_l3 := (show Blk _ _ _ _ from hS.1).cell (i := 3) rfl; have r_l4 := (show Blk _ _ _ _ from hS.1).cell (i := 4) rfl; have r_l5 := (show Blk _ _ _ _ from hS.1).cell (i := 5) rfl; have r_l6 := (show Blk _ _ _ _ from hS.1).cell (i := 6) rfl; have r_l7 := (show Blk _ _ _ _ from hS.1).cell (i := 7) rfl; go_simp⟩) (⟨k_l, bW8⟩) ?_
          try simp only [Act.put, List.setIfInBounds_toArray, List.set_cons_zero, List.set_cons_succ]
          refine Foyer.Round.held_take [3, 4, 5, 7] (i := 2) (v := .pointer (some ⟨rb, 0, none⟩)) rfl (by kernel_rfl) (fun _ _ _ h => h) (Or.inl ⟨by rfl, fun w' hS => by go_simp⟩) (⟨k_l, bW8⟩) ?_
          try simp only [Act.put, List.setIfInBounds_toArray, List.set_cons_zero, List.set_cons_succ]
          refine Foyer.Round.held_one (i := 3) rfl (by kernel_rfl) (fun K hK => ?_)
          go_simp
          refine (dbox_c B N Ls p cap hL rb s0 (i + 1) HI0.out hi0 W8 (Below.kp5 HB.out hrb hbs bW8) hrb k_R N_q1.out).mono ?_; rintro e W9 ⟨rfl, ⟨j13, hr, hl_, hi13⟩, hb⟩
          have sW9 := Nat.le_trans sW8 hb.size
          have bW9 := (bW8).trans (Kp.mono hb (fun k h => Or.inl h))
          replace k_R := hr
          replace k_l := Blk.kept k_l hb (by show ¬ _ = rb; omega)
          replace k_t := Blk.kept k_t hb (by show ¬ _ = rb; omega)
          have kpW9 := (kpW8).trans (Kp.mono hb (fun k hk => hk))
          clear hb hr bW8 sW8
          have HI13 := Lib.hid hl_
          clear hl_
          refine hK.out _ _ (fun _ => ⟨k_l, bW9⟩) ?_
          clear hK K
          try simp only [Act.put, List.setIfInBounds_toArray, List.set_cons_zero, List.set_cons_succ]
          have h5 := (H5.out.mono (G' := fun k => k < w.heap.size ∨ W9.heap.size ≤ k) (fun k hk _ => Or.inl hk)).kept kpW9 (fun k hk => Or.inl (by have e : k = rb := hk; omega))
          have hold : ∀ v ∈ [Value.slice a1 n1 c1, Value.slice a2 n2 c2, Value.slice a3 n3 c3, Value.slice a4 n4 c4, Value.slice a5 n5 c5], ∀ k, v.ownBlock = some k → k < W9.heap.size := fun v hv k hk => by have := (H5.out.lt v hv k hk).2; omega
          obtain ⟨css, hcon, hall⟩ := h5.b4
          have hown : ∀ k, (Value.slice a4 n4 c4).ownBlock = some k → base ≤ k ∧ k < W9.heap.size := fun k hk => own_lt hcon.own hk
          obtain ⟨i0, hi0_, hz0, hz1, hz2⟩ := info_parts6 item4_info
          have hc : boxK.is W9 (fun k => W9.heap.size ≤ k) [.int .i64 (bx.x : Nat), .int .i64 (bx.y : Nat), .int .i64 (bx.x2 : Nat), .int .i64 (bx.y2 : Nat)] bx := rfl
          have hNW : w.heap.size + 2 ≤ W9.heap.size ∧ W9.heap.size ≤ W9.heap.size := by omega
          have HI0_ := Lib.hid hi0_; have HZ0 := Lib.hid hz0; have HZ1 := Lib.hid hz1; have HZ2 := Lib.hid hz2; have HCON := Lib.hid hcon; have HALL := Lib.hid hall; have HOW := Lib.hid hown; have HC := Lib.hid hc; have HL5 := Lib.hid h5; have HOLD := Lib.hid hold
          have HXL : Hid (css.length + 1 ≤ 1000000) := Lib.hid (by rw [All2.length HALL.out, HNL.out.2.2.2.1]; have := HNN.out; omega)
          clear hi0_ hz0 hz1 hz2 hcon hall hown hc h5 hold
          clear kpW9
          refine Foyer.Round.held_one (i := 4) rfl (by kernel_rfl) (fun K hK => ?_)
          go_simp
          refine hK.out _ _ (fun _ => ⟨k_l.alloc _, Kp.alloc bW9 _⟩) ?_
          clear hK K
          try simp only [Act.put, List.setIfInBounds_toArray, List.set_cons_zero, List.set_cons_succ]
          refine Foyer.Round.held_one (i := 5) rfl (by kernel_rfl) (fun K hK => ?_)
          rw [if_pos (by kernel_rfl)]
          refine con_append (t := 35) (T := 48) (m := boxK.size) (B := base) Tryz.underlying35 HI0_.out HZ0.out HZ1.out HZ2.out rfl (by decide) (by decide) (.tmp 104) (.tmp 107) rfl _ css [.int .i64 (bx.x : Nat), .int .i64 (bx.y : Nat), .int .i64 (bx.x2 : Nat), .int .i64 (bx.y2 : Nat)] rfl (HCON.out.of_block (fun k hk => Below.heap_alloc _ _ _ (HOW.out k hk).2)) W9.heap.size rfl (Blk.new W9 48 [.int .i64 (bx.x : Nat), .int .i64 (bx.y : Nat), .int .i64 (bx.x2 : Nat), .int .i64 (bx.y2 : Nat)]) (boxK.len HC.out) (boxK.one HC.out) HXL.out (by rw [World.size_alloc]; omega) ?_
          intro v' Wa hcon' hg hat hone
          have hgr : ∀ k, k < W9.heap.size → (Value.slice a4 n4 c4).ownBlock ≠ some k → Wa.heap[k]? = W9.heap[k]? := fun k hk hn => (hg.block k (by rw [World.size_alloc]; omega) (fun h => hn h.symm)).trans (Below.heap_alloc _ _ _ hk); have A5 := Lib.hid (HL5.out.pillar (N := W9.heap.size) (M := (W9.alloc (.cells ([.int .i64 (bx.x : Nat), .int .i64 (bx.y : Nat), .int .i64 (bx.x2 : Nat), .int .i64 (bx.y2 : Nat)] : List Value).toArray 48)).heap.size) HALL.out HC.out (by omega) (fun k hk => Or.inr hk) HOLD.out hcon' hgr hat (by rw [World.size_alloc]; omega) (by rw [World.size_alloc]; omega)); have F_R := Lib.hid ((hgr rb k_R.lt (fun e => by have h3 := (HOW.out rb e).1; omega)).trans k_R); have F_l := Lib.hid ((hgr _ k_l.lt (fun e => by have h4 := (H5.out.lt (Value.slice a4 n4 c4) (by simp) _ e).2; omega)).trans k_l); have F_t := Lib.hid ((hgr _ k_t.lt (fun e => by have h4 := (H5.out.lt (Value.slice a4 n4 c4) (by simp) _ e).2; omega)).trans k_t); have FB : Hid (Kp (E5 rb base) w Wa) := Lib.hid ((bW9.alloc (.cells ([.int .i64 (bx.x : Nat), .int .i64 (bx.y : Nat), .int .i64 (bx.x2 : Nat), .int .i64 (bx.y2 : Nat)] : List Value).toArray 48)).grown hg (fun k hk => Or.inl (Or.inr (HOW.out k hk).1))); have FZ : Hid (W9.heap.size + 1 ≤ Wa.heap.size) := Lib.hid (by have := hg.size; rw [World.size_alloc] at this; exact this); have hvl : ∃ a c, v' = .slice a (n4 + 1) c := (by obtain ⟨a, c, e⟩ := A5.out.b4.len6; refine ⟨a, c, ?_⟩; rw [e]; congr 1; unfold pillarsOf; rw [List.filterMap_append, List.length_append]; have hx := HNL.out.2.2.2.1; unfold pillarsOf at hx; rw [hx]; rfl); obtain ⟨va, vc, hv'⟩ := hvl; subst hv'; clear hcon' hg hat hone hgr; have z_l := (show Blk Wa _ _ _ from F_l.out).cell (i := 5) rfl; have z_lf := (show Blk Wa _ _ _ from F_l.out).free
          refine hK.out _ _ (fun _ => ⟨F_l.out, FB.out⟩) ?_
          clear hK K
          try simp only [Act.put, List.setIfInBounds_toArray, List.set_cons_zero, List.set_cons_succ]
          clear k_R k_l k_t
          try clear z_l
          try clear z_lf
          have k_R : Blk Wa (rb) 57 [.slice p Ls.length cap, .int .i64 (j13 : Nat), .int .i64 (s5.err : Nat), .int .i64 (s5.pos : Nat), .int .i64 (N : Nat)] := F_R.out
          have k_l : Blk Wa (w.heap.size) 38 [.string ⟨ln.toArray⟩, .int .i64 (lh : Nat), .slice a1 n1 c1, .slice a2 n2 c2, .slice a3 n3 c3, .slice a4 n4 c4, .slice a5 n5 c5, .int .i64 (lp : Nat)] := F_l.out
          have k_t : Blk Wa (w.heap.size + 1) 38 [.string ⟨#[]⟩, .int .i64 0, .slice none 0 0, .slice none 0 0, .slice none 0 0, .slice none 0 0, .slice none 0 0, .int .i64 0] := F_t.out
          have bWa := FB.out
          have sWa := FZ.out
          clear bW9 FB FZ F_R F_l F_t H5 HL5 HOLD HALL HCON HOW HC HXL HI0_ HZ0 HZ1 HZ2
          refine Foyer.Round.held_take [7] (i := 6) (v := .pointer (some ⟨w.heap.size, 5, none⟩)) rfl (by kernel_rfl) (fun _ _ _ h => h) (Or.inl ⟨by rfl, fun w' hS => by go_simp⟩) (⟨k_l, bWa⟩) ?_
          try simp only [Act.put, List.setIfInBounds_toArray, List.set_cons_zero, List.set_cons_succ]
          have q_l0 := k_l.cell (i := 0) rfl
          have q_l1 := k_l.cell (i := 1) rfl
          have q_l2 := k_l.cell (i := 2) rfl
          have q_l3 := k_l.cell (i := 3) rfl
          have q_l4 := k_l.cell (i := 4) rfl
          have q_l5 := k_l.cell (i := 5) rfl
          have q_l6 := k_l.cell (i := 6) rfl
          have q_l7 := k_l.cell (i := 7) rfl
          have q_lf := k_l.free
          refine Foyer.Round.held_one (i := 7) rfl (by kernel_rfl) (fun K hK => ?_)
          go_simp
          clear q_l0 q_l1 q_l2 q_l3 q_l4 q_l5 q_l6 q_l7 q_lf
          obtain ⟨W10, hW10, bW10, sW10, kpW10, k2_R, k2_l, k2_t⟩ : ∃ xW, (Wa.setCell ⟨w.heap.size, 5, none⟩ (.slice va (n4 + 1) vc)) = xW ∧ Kp (E5 rb base) w xW ∧ Wa.heap.size ≤ xW.heap.size ∧ Kp (fun k => k < base ∨ (w.heap.size ≤ k ∧ k < W9.heap.size)) Wa xW ∧ Blk xW (rb) 57 [.slice p Ls.length cap, .int .i64 (j13 : Nat), .int .i64 (s5.err : Nat), .int .i64 (s5.pos : Nat), .int .i64 (N : Nat)] ∧ Blk xW (w.heap.size) 38 [.string ⟨ln.toArray⟩, .int .i64 (lh : Nat), .slice a1 n1 c1, .slice a2 n2 c2, .slice a3 n3 c3, .slice va (n4 + 1) vc, .slice a5 n5 c5, .int .i64 (lp : Nat)] ∧ Blk xW (w.heap.size + 1) 38 [.string ⟨#[]⟩, .int .i64 0, .slice none 0 0, .slice none 0 0, .slice none 0 0, .slice none 0 0, .slice none 0 0, .int .i64 0] := ⟨_, rfl, (Kp.s1 bWa (Or.inr (by omega))), by simp only [World.setCell, World.size_alloc, Array.size_modify, Nat.le_refl], (Kp.s1 (Kp.refl _ _) (Or.inl (show w.heap.size < base ∨ (w.heap.size ≤ w.heap.size ∧ w.heap.size < W9.heap.size) by omega))), (Blk.o1 k_R (by omega)), (Blk.cast (Blk.set k_l 5 _) rfl), (Blk.o1 k_t (by omega))⟩
          rw [hW10]
          clear hW10 k_R k_l k_t
          have k_R := k2_R
          have k_l := k2_l
          have k_t := k2_t
          clear k2_R k2_l k2_t
          refine hK.out _ _ (fun h => (h (by simp)).elim) ?_
          clear hK K
          try simp only [Act.put, List.setIfInBounds_toArray, List.set_cons_zero, List.set_cons_succ]
          refine Foyer.Round.held_done (by kernel_rfl) ?_ _
          go_upto_region 28 with fail
          go_wp2_with fail
          refine (dmust_c wSemi B N Ls p cap hL rb s5 j13 HI13.out hi13 W10 (Below.kp5 HB.out hrb hbs bW10) hrb k_R N_q5.out).mono ?_; rintro e W11 ⟨rfl, ⟨j14, hr, hl_, hi14⟩, hb⟩
          have sW11 := Nat.le_trans sW10 hb.size
          have bW11 := (bW10).trans (Kp.mono hb (fun k h => Or.inl h))
          replace k_R := hr
          replace k_l := Blk.kept k_l hb (by show ¬ _ = rb; omega)
          replace k_t := Blk.kept k_t hb (by show ¬ _ = rb; omega)
          have kpW11 := (kpW10).trans (Kp.mono hb (fun k hk => by have e : k = rb := hk; show k < base ∨ _; omega))
          clear hb hr bW10 sW10
          have HI14 := Lib.hid hl_
          clear hl_ HI13 hi13
          have q_l0 := k_l.cell (i := 0) rfl
          have q_l1 := k_l.cell (i := 1) rfl
          have q_l2 := k_l.cell (i := 2) rfl
          have q_l3 := k_l.cell (i := 3) rfl
          have q_l4 := k_l.cell (i := 4) rfl
          have q_l5 := k_l.cell (i := 5) rfl
          have q_l6 := k_l.cell (i := 6) rfl
          have q_l7 := k_l.cell (i := 7) rfl
          have q_lf := k_l.free
          have q_t0 := k_t.cell (i := 0) rfl
          have q_t1 := k_t.cell (i := 1) rfl
          have q_t2 := k_t.cell (i := 2) rfl
          have q_t3 := k_t.cell (i := 3) rfl
          have q_t4 := k_t.cell (i := 4) rfl
          have q_t5 := k_t.cell (i := 5) rfl
          have q_t6 := k_t.cell (i := 6) rfl
          have q_t7 := k_t.cell (i := 7) rfl
          have q_tf := k_t.free
          go_wp2
          clear q_l0 q_l1 q_l2 q_l3 q_l4 q_l5 q_l6 q_l7 q_lf q_t0 q_t1 q_t2 q_t3 q_t4 q_t5 q_t6 q_t7 q_tf
          obtain ⟨W12, hW12, bW12, sW12, kpW12, k2_R, k2_l, k2_t⟩ : ∃ xW, ((((((((W11.setCell ⟨w.heap.size + 1, 0, none⟩ (.string ⟨ln.toArray⟩)).setCell ⟨w.heap.size + 1, 1, none⟩ (.int .i64 (lh : Nat))).setCell ⟨w.heap.size + 1, 2, none⟩ (.slice a1 n1 c1)).setCell ⟨w.heap.size + 1, 3, none⟩ (.slice a2 n2 c2)).setCell ⟨w.heap.size + 1, 4, none⟩ (.slice a3 n3 c3)).setCell ⟨w.heap.size + 1, 5, none⟩ (.slice va (n4 + 1) vc)).setCell ⟨w.heap.size + 1, 6, none⟩ (.slice a5 n5 c5)).setCell ⟨w.heap.size + 1, 7, none⟩ (.int .i64 (lp : Nat))) = xW ∧ Kp (E5 rb base) w xW ∧ W11.heap.size ≤ xW.heap.size ∧ Kp (fun k => k < base ∨ (w.heap.size ≤ k ∧ k < W9.heap.size)) Wa xW ∧ Blk xW (rb) 57 [.slice p Ls.length cap, .int .i64 (j14 : Nat), .int .i64 (s6.err : Nat), .int .i64 (s6.pos : Nat), .int .i64 (N : Nat)] ∧ Blk xW (w.heap.size) 38 [.string ⟨ln.toArray⟩, .int .i64 (lh : Nat), .slice a1 n1 c1, .slice a2 n2 c2, .slice a3 n3 c3, .slice va (n4 + 1) vc, .slice a5 n5 c5, .int .i64 (lp : Nat)] ∧ Blk xW (w.heap.size + 1) 38 [.string ⟨ln.toArray⟩, .int .i64 (lh : Nat), .slice a1 n1 c1, .slice a2 n2 c2, .slice a3 n3 c3, .slice va (n4 + 1) vc, .slice a5 n5 c5, .int .i64 (lp : Nat)] := ⟨_, rfl, (Kp.s4 (Kp.s4 bW11 (Or.inr (by omega))) (Or.inr (by omega))), by simp only [World.setCell, World.size_alloc, Array.size_modify, Nat.le_refl], (Kp.s4 (Kp.s4 kpW11 (Or.inl (show w.heap.size + 1 < base ∨ (w.heap.size ≤ w.heap.size + 1 ∧ w.heap.size + 1 < W9.heap.size) by omega))) (Or.inl (show w.heap.size + 1 < base ∨ (w.heap.size ≤ w.heap.size + 1 ∧ w.heap.size + 1 < W9.heap.size) by omega))), (Blk.o4 (Blk.o4 k_R (by omega)) (by omega)), (Blk.o4 (Blk.o4 k_l (by omega)) (by omega)), (Blk.cast (Blk.set (Blk.set (Blk.set (Blk.set (Blk.set (Blk.set (Blk.set (Blk.set k_t 0 _) 1 _) 2 _) 3 _) 4 _) 5 _) 6 _) 7 _) rfl)⟩
          rw [hW12]
          clear hW12 k_R k_l k_t
          have k_R := k2_R
          have k_l := k2_l
          have k_t := k2_t
          clear k2_R k2_l k2_t
          exact bodyPost_ret (results_cell_mid rfl _ _ (w.heap.size + 1) _ _ rfl k_t.range Tryz.underlying38 rfl (by kernel_rfl)) rfl ⟨⟨_, _, _, _, _, rfl, (A5.out.kept kpW12 (fun k hk => by rcases hk with h1 | h1 <;> first | exact Or.inl h1 | (right; show ¬ (k < w.heap.size ∨ W9.heap.size ≤ k); omega))).mono (fun _ _ _ => trivial)⟩, ⟨j14, k_R, HI14.out, hi14⟩, bW12⟩
      · have hsort : sortS s = 3 := by unfold sortS; rw [if_neg (by rw [NB1.out]; simp)]; rw [if_neg (by rw [NB2.out]; simp)]; rw [if_pos NB3.out]
        obtain ⟨_, tt, rr, hlt_, _⟩ := sees_true NB3.out
        have hdr : Ls.drop i = tt :: rr := HI.out.symm.trans hlt_
        have hig1 : i < Ls.length := by
          rcases Nat.lt_or_ge i Ls.length with h | h
          · exact h
          · rw [List.drop_eq_nil_of_le h] at hdr; cases hdr
        obtain ⟨s0, h15⟩ : ∃ z, rNext s = z := ⟨_, rfl⟩
        have h := HH.out
        unfold itemS at h
        rw [hsort, if_neg (by decide), NA.out, h15] at h
        injection h with e1 e2
        have HS0 : Hid (SaneS s0) := Lib.hid (HS.out.suf (by rw [← h15]; exact next_suf s))
        have HI0 : Hid (s0.left = Ls.drop (i + 1)) := Lib.hid (by rw [← h15]; unfold rNext; rw [hlt_]; exact drop_next hdr)
        have HE0 : Hid (s0.err = s.err ∧ s0.pos = s.pos) := Lib.hid (by rw [← h15]; exact ⟨rfl, rfl⟩)
        have hi0 : i + 1 ≤ Ls.length := hig1
        obtain ⟨⟨im, sq⟩, hrest⟩ : ∃ z, restS N 3 aa s0 = z := ⟨_, rfl⟩
        rw [hrest] at e1 e2
        dsimp only at e1 e2
        subst e1 e2
        clear hsort hlt_ hdr h15 HH HS
        obtain ⟨⟨bx, s5⟩, q1⟩ : ∃ z, boxS N s0 = z := ⟨_, rfl⟩
        obtain ⟨s6, q5⟩ : ∃ z, rMust N s5 wSemi = z := ⟨_, rfl⟩
        unfold restS at hrest
        rw [if_neg (by decide)] at hrest
        rw [if_neg (by decide)] at hrest
        rw [if_pos rfl] at hrest
        simp only [blockS, areaS, pointS, bindS, retS, mustS, manyS, q1, q5] at hrest
        injection hrest with e1 e2
        subst e1 e2
        have N_q1 := Lib.hid q1; have N_q5 := Lib.hid q5
        clear q1 q5
        have q_R0 := k_R.cell (i := 0) rfl
        have q_R1 := k_R.cell (i := 1) rfl
        have q_R2 := k_R.cell (i := 2) rfl
        have q_R3 := k_R.cell (i := 3) rfl
        have q_R4 := k_R.cell (i := 4) rfl
        have q_Rf := k_R.free
        go_upto_region 19 with fail
        clear q_R0 q_R1 q_R2 q_R3 q_R4 q_Rf
        obtain ⟨W6, hW6, bW6, sW6, k2_R, k2_l, k2_t⟩ : ∃ xW, (W5.setCell ⟨rb, 1, none⟩ (.int .i64 ((i : Int) + 1))) = xW ∧ Kp (onlyB rb) w xW ∧ W5.heap.size ≤ xW.heap.size ∧ Blk xW (rb) 57 [.slice p Ls.length cap, .int .i64 ((i : Int) + 1), .int .i64 (s.err : Nat), .int .i64 (s.pos : Nat), .int .i64 (N : Nat)] ∧ Blk xW (w.heap.size) 38 [.string ⟨ln.toArray⟩, .int .i64 (lh : Nat), .slice a1 n1 c1, .slice a2 n2 c2, .slice a3 n3 c3, .slice a4 n4 c4, .slice a5 n5 c5, .int .i64 (lp : Nat)] ∧ Blk xW (w.heap.size + 1) 38 [.string ⟨#[]⟩, .int .i64 0, .slice none 0 0, .slice none 0 0, .slice none 0 0, .slice none 0 0, .slice none 0 0, .int .i64 0] := ⟨_, rfl, (Kp.s1 bW5 (Or.inl rfl)), by simp only [World.setCell, World.size_alloc, Array.size_modify, Nat.le_refl], (Blk.cast (Blk.set k_R 1 _) rfl), (Blk.o1 k_l (by omega)), (Blk.o1 k_t (by omega))⟩
        rw [hW6]
        clear hW6 k_R k_l k_t
        have k_R := k2_R
        have k_l := k2_l
        have k_t := k2_t
        clear k2_R k2_l k2_t
        replace k_R : Blk W6 rb 57 [.slice p Ls.length cap, .int .i64 ((i + 1) : Nat), .int .i64 (s0.err : Nat), .int .i64 (s0.pos : Nat), .int .i64 (N : Nat)] := by rw [HE0.out.1, HE0.out.2]; exact k_R
        have kpW6 : Kp (onlyB rb) w W6 := bW6
        replace bW6 : Kp (E5 rb base) w W6 := Kp.mono bW6 (fun k h => Or.inl h)
        refine wp_region_any (by kernel_rfl) ?_
        refine Foyer.Round.any_of_held (S := fun W => Blk W (w.heap.size) 38 [.string ⟨ln.toArray⟩, .int .i64 (lh : Nat), .slice a1 n1 c1, .slice a2 n2 c2, .slice a3 n3 c3, .slice a4 n4 c4, .slice a5 n5 c5, .int .i64 (lp : Nat)] ∧ Kp (E5 rb base) w W) (N := [7]) _ _ _ _ ?_
        change Foyer.Round.held _ _ _ _ _ _ _ _ _ W6.drew
        obtain ⟨W7, hW7⟩ : ∃ x, W6.drew = x := ⟨_, rfl⟩
        have bW7 : Kp (E5 rb base) w W7 := by rw [← hW7]; exact Kp.drew bW6
        have sW7 := sW6
        rw [show W6.heap.size = W7.heap.size from by rw [← hW7]; rfl] at sW7
        replace k_R : Blk W7 (rb) 57 [.slice p Ls.length cap, .int .i64 ((i + 1) : Nat), .int .i64 (s0.err : Nat), .int .i64 (s0.pos : Nat), .int .i64 (N : Nat)] := by rw [← hW7]; exact k_R
        replace k_l : Blk W7 (w.heap.size) 38 [.string ⟨ln.toArray⟩, .int .i64 (lh : Nat), .slice a1 n1 c1, .slice a2 n2 c2, .slice a3 n3 c3, .slice a4 n4 c4, .slice a5 n5 c5, .int .i64 (lp : Nat)] := by rw [← hW7]; exact k_l
        replace k_t : Blk W7 (w.heap.size + 1) 38 [.string ⟨#[]⟩, .int .i64 0, .slice none 0 0, .slice none 0 0, .slice none 0 0, .slice none 0 0, .slice none 0 0, .int .i64 0] := by rw [← hW7]; exact k_t
        have kpW7 : Kp (onlyB rb) w W7 := by rw [← hW7]; exact Kp.drew (kpW6)
        rw [hW7]
        clear hW7 bW6 sW6
        refine Foyer.Round.held_take [1, 5, 7] (i := 0) (v := .pointer (some ⟨w.heap.size, 4, none⟩)) rfl (by kernel_rfl) (fun _ _ _ h => h) (Or.inl ⟨by rfl, fun w' hS => by go_simp⟩) (⟨k_l, bW7⟩) ?_
        try simp only [Act.put, List.setIfInBounds_toArray, List.set_cons_zero, List.set_cons_succ]
        refine Foyer.Round.held_take [5, 7] (i := 1) (v := .slice a3 n3 c3) rfl (by kernel_rfl) (fun _ _ _ h => h) (Or.inl ⟨by rfl, fun w' hS => by have r_l0 := (show Blk _ _ _ _ from hS.1).cell (i := 0) rfl; have r_l1 := (show Blk _ _ _ _ from hS.1).cell (i := 1) rfl; have r_l2 := (show Blk _ _ _ _ from hS.1).cell (i := 2) rfl; have r_l3 := (show Blk _ _ _ _ from hS.1).cell (i := 3) rfl; have r_l4 := (show Blk _ _ _ _ from hS.1).cell (i := 4) rfl; have r_l5 := (show Blk _ _ _ _ from hS.1).cell (i := 5) rfl; have r_l6 := (show Blk _ _ _ _ from hS.1).cell (i := 6) rfl; have r_l7 := (show Blk _ _ _ _ from hS.1).cell (i := 7) rfl; go_simp⟩) (⟨k_l, bW7⟩) ?_
        try simp only [Act.put, List.setIfInBounds_toArray, List.set_cons_zero, List.set_cons_succ]
        refine Foyer.Round.held_take [3, 4, 5, 7] (i := 2) (v := .pointer (some ⟨rb, 0, none⟩)) rfl (by kernel_rfl) (fun _ _ _ h => h) (Or.inl ⟨by rfl, fun w' hS => by go_simp⟩) (⟨k_l, bW7⟩) ?_
        try simp only [Act.put, List.setIfInBounds_toArray, List.set_cons_zero, List.set_cons_succ]
        refine Foyer.Round.held_one (i := 3) rfl (by kernel_rfl) (fun K hK => ?_)
        go_simp
        refine (dbox_c B N Ls p cap hL rb s0 (i + 1) HI0.out hi0 W7 (Below.kp5 HB.out hrb hbs bW7) hrb k_R N_q1.out).mono ?_; rintro e W8 ⟨rfl, ⟨j11, hr, hl_, hi11⟩, hb⟩
        have sW8 := Nat.le_trans sW7 hb.size
        have bW8 := (bW7).trans (Kp.mono hb (fun k h => Or.inl h))
        replace k_R := hr
        replace k_l := Blk.kept k_l hb (by show ¬ _ = rb; omega)
        replace k_t := Blk.kept k_t hb (by show ¬ _ = rb; omega)
        have kpW8 := (kpW7).trans (Kp.mono hb (fun k hk => hk))
        clear hb hr bW7 sW7
        have HI11 := Lib.hid hl_
        clear hl_
        refine hK.out _ _ (fun _ => ⟨k_l, bW8⟩) ?_
        clear hK K
        try simp only [Act.put, List.setIfInBounds_toArray, List.set_cons_zero, List.set_cons_succ]
        have h5 := (H5.out.mono (G' := fun k => k < w.heap.size ∨ W8.heap.size ≤ k) (fun k hk _ => Or.inl hk)).kept kpW8 (fun k hk => Or.inl (by have e : k = rb := hk; omega))
        have hold : ∀ v ∈ [Value.slice a1 n1 c1, Value.slice a2 n2 c2, Value.slice a3 n3 c3, Value.slice a4 n4 c4, Value.slice a5 n5 c5], ∀ k, v.ownBlock = some k → k < W8.heap.size := fun v hv k hk => by have := (H5.out.lt v hv k hk).2; omega
        obtain ⟨css, hcon, hall⟩ := h5.b3
        have hown : ∀ k, (Value.slice a3 n3 c3).ownBlock = some k → base ≤ k ∧ k < W8.heap.size := fun k hk => own_lt hcon.own hk
        obtain ⟨i0, hi0_, hz0, hz1, hz2⟩ := info_parts6 item3_info
        have hc : boxK.is W8 (fun k => W8.heap.size ≤ k) [.int .i64 (bx.x : Nat), .int .i64 (bx.y : Nat), .int .i64 (bx.x2 : Nat), .int .i64 (bx.y2 : Nat)] bx := rfl
        have hNW : w.heap.size + 2 ≤ W8.heap.size ∧ W8.heap.size ≤ W8.heap.size := by omega
        have HI0_ := Lib.hid hi0_; have HZ0 := Lib.hid hz0; have HZ1 := Lib.hid hz1; have HZ2 := Lib.hid hz2; have HCON := Lib.hid hcon; have HALL := Lib.hid hall; have HOW := Lib.hid hown; have HC := Lib.hid hc; have HL5 := Lib.hid h5; have HOLD := Lib.hid hold
        have HXL : Hid (css.length + 1 ≤ 1000000) := Lib.hid (by rw [All2.length HALL.out, HNL.out.2.2.1]; have := HNN.out; omega)
        clear hi0_ hz0 hz1 hz2 hcon hall hown hc h5 hold
        clear kpW8
        refine Foyer.Round.held_one (i := 4) rfl (by kernel_rfl) (fun K hK => ?_)
        go_simp
        refine hK.out _ _ (fun _ => ⟨k_l.alloc _, Kp.alloc bW8 _⟩) ?_
        clear hK K
        try simp only [Act.put, List.setIfInBounds_toArray, List.set_cons_zero, List.set_cons_succ]
        refine Foyer.Round.held_one (i := 5) rfl (by kernel_rfl) (fun K hK => ?_)
        rw [if_pos (by kernel_rfl)]
        refine con_append (t := 35) (T := 48) (m := boxK.size) (B := base) Tryz.underlying35 HI0_.out HZ0.out HZ1.out HZ2.out rfl (by decide) (by decide) (.tmp 88) (.tmp 91) rfl _ css [.int .i64 (bx.x : Nat), .int .i64 (bx.y : Nat), .int .i64 (bx.x2 : Nat), .int .i64 (bx.y2 : Nat)] rfl (HCON.out.of_block (fun k hk => Below.heap_alloc _ _ _ (HOW.out k hk).2)) W8.heap.size rfl (Blk.new W8 48 [.int .i64 (bx.x : Nat), .int .i64 (bx.y : Nat), .int .i64 (bx.x2 : Nat), .int .i64 (bx.y2 : Nat)]) (boxK.len HC.out) (boxK.one HC.out) HXL.out (by rw [World.size_alloc]; omega) ?_
        intro v' Wa hcon' hg hat hone
        have hgr : ∀ k, k < W8.heap.size → (Value.slice a3 n3 c3).ownBlock ≠ some k → Wa.heap[k]? = W8.heap[k]? := fun k hk hn => (hg.block k (by rw [World.size_alloc]; omega) (fun h => hn h.symm)).trans (Below.heap_alloc _ _ _ hk); have A5 := Lib.hid (HL5.out.aisle (N := W8.heap.size) (M := (W8.alloc (.cells ([.int .i64 (bx.x : Nat), .int .i64 (bx.y : Nat), .int .i64 (bx.x2 : Nat), .int .i64 (bx.y2 : Nat)] : List Value).toArray 48)).heap.size) HALL.out HC.out (by omega) (fun k hk => Or.inr hk) HOLD.out hcon' hgr hat (by rw [World.size_alloc]; omega) (by rw [World.size_alloc]; omega)); have F_R := Lib.hid ((hgr rb k_R.lt (fun e => by have h3 := (HOW.out rb e).1; omega)).trans k_R); have F_l := Lib.hid ((hgr _ k_l.lt (fun e => by have h4 := (H5.out.lt (Value.slice a3 n3 c3) (by simp) _ e).2; omega)).trans k_l); have F_t := Lib.hid ((hgr _ k_t.lt (fun e => by have h4 := (H5.out.lt (Value.slice a3 n3 c3) (by simp) _ e).2; omega)).trans k_t); have FB : Hid (Kp (E5 rb base) w Wa) := Lib.hid ((bW8.alloc (.cells ([.int .i64 (bx.x : Nat), .int .i64 (bx.y : Nat), .int .i64 (bx.x2 : Nat), .int .i64 (bx.y2 : Nat)] : List Value).toArray 48)).grown hg (fun k hk => Or.inl (Or.inr (HOW.out k hk).1))); have FZ : Hid (W8.heap.size + 1 ≤ Wa.heap.size) := Lib.hid (by have := hg.size; rw [World.size_alloc] at this; exact this); have hvl : ∃ a c, v' = .slice a (n3 + 1) c := (by obtain ⟨a, c, e⟩ := A5.out.b3.len6; refine ⟨a, c, ?_⟩; rw [e]; congr 1; unfold aislesOf; rw [List.filterMap_append, List.length_append]; have hx := HNL.out.2.2.1; unfold aislesOf at hx; rw [hx]; rfl); obtain ⟨va, vc, hv'⟩ := hvl; subst hv'; clear hcon' hg hat hone hgr; have z_l := (show Blk Wa _ _ _ from F_l.out).cell (i := 4) rfl; have z_lf := (show Blk Wa _ _ _ from F_l.out).free
        refine hK.out _ _ (fun _ => ⟨F_l.out, FB.out⟩) ?_
        clear hK K
        try simp only [Act.put, List.setIfInBounds_toArray, List.set_cons_zero, List.set_cons_succ]
        clear k_R k_l k_t
        try clear z_l
        try clear z_lf
        have k_R : Blk Wa (rb) 57 [.slice p Ls.length cap, .int .i64 (j11 : Nat), .int .i64 (s5.err : Nat), .int .i64 (s5.pos : Nat), .int .i64 (N : Nat)] := F_R.out
        have k_l : Blk Wa (w.heap.size) 38 [.string ⟨ln.toArray⟩, .int .i64 (lh : Nat), .slice a1 n1 c1, .slice a2 n2 c2, .slice a3 n3 c3, .slice a4 n4 c4, .slice a5 n5 c5, .int .i64 (lp : Nat)] := F_l.out
        have k_t : Blk Wa (w.heap.size + 1) 38 [.string ⟨#[]⟩, .int .i64 0, .slice none 0 0, .slice none 0 0, .slice none 0 0, .slice none 0 0, .slice none 0 0, .int .i64 0] := F_t.out
        have bWa := FB.out
        have sWa := FZ.out
        clear bW8 FB FZ F_R F_l F_t H5 HL5 HOLD HALL HCON HOW HC HXL HI0_ HZ0 HZ1 HZ2
        refine Foyer.Round.held_take [7] (i := 6) (v := .pointer (some ⟨w.heap.size, 4, none⟩)) rfl (by kernel_rfl) (fun _ _ _ h => h) (Or.inl ⟨by rfl, fun w' hS => by go_simp⟩) (⟨k_l, bWa⟩) ?_
        try simp only [Act.put, List.setIfInBounds_toArray, List.set_cons_zero, List.set_cons_succ]
        have q_l0 := k_l.cell (i := 0) rfl
        have q_l1 := k_l.cell (i := 1) rfl
        have q_l2 := k_l.cell (i := 2) rfl
        have q_l3 := k_l.cell (i := 3) rfl
        have q_l4 := k_l.cell (i := 4) rfl
        have q_l5 := k_l.cell (i := 5) rfl
        have q_l6 := k_l.cell (i := 6) rfl
        have q_l7 := k_l.cell (i := 7) rfl
        have q_lf := k_l.free
        refine Foyer.Round.held_one (i := 7) rfl (by kernel_rfl) (fun K hK => ?_)
        go_simp
        clear q_l0 q_l1 q_l2 q_l3 q_l4 q_l5 q_l6 q_l7 q_lf
        obtain ⟨W9, hW9, bW9, sW9, kpW9, k2_R, k2_l, k2_t⟩ : ∃ xW, (Wa.setCell ⟨w.heap.size, 4, none⟩ (.slice va (n3 + 1) vc)) = xW ∧ Kp (E5 rb base) w xW ∧ Wa.heap.size ≤ xW.heap.size ∧ Kp (fun k => k < base ∨ (w.heap.size ≤ k ∧ k < W8.heap.size)) Wa xW ∧ Blk xW (rb) 57 [.slice p Ls.length cap, .int .i64 (j11 : Nat), .int .i64 (s5.err : Nat), .int .i64 (s5.pos : Nat), .int .i64 (N : Nat)] ∧ Blk xW (w.heap.size) 38 [.string ⟨ln.toArray⟩, .int .i64 (lh : Nat), .slice a1 n1 c1, .slice a2 n2 c2, .slice va (n3 + 1) vc, .slice a4 n4 c4, .slice a5 n5 c5, .int .i64 (lp : Nat)] ∧ Blk xW (w.heap.size + 1) 38 [.string ⟨#[]⟩, .int .i64 0, .slice none 0 0, .slice none 0 0, .slice none 0 0, .slice none 0 0, .slice none 0 0, .int .i64 0] := ⟨_, rfl, (Kp.s1 bWa (Or.inr (by omega))), by simp only [World.setCell, World.size_alloc, Array.size_modify, Nat.le_refl], (Kp.s1 (Kp.refl _ _) (Or.inl (show w.heap.size < base ∨ (w.heap.size ≤ w.heap.size ∧ w.heap.size < W8.heap.size) by omega))), (Blk.o1 k_R (by omega)), (Blk.cast (Blk.set k_l 4 _) rfl), (Blk.o1 k_t (by omega))⟩
        rw [hW9]
        clear hW9 k_R k_l k_t
        have k_R := k2_R
        have k_l := k2_l
        have k_t := k2_t
        clear k2_R k2_l k2_t
        refine hK.out _ _ (fun h => (h (by simp)).elim) ?_
        clear hK K
        try simp only [Act.put, List.setIfInBounds_toArray, List.set_cons_zero, List.set_cons_succ]
        refine Foyer.Round.held_done (by kernel_rfl) ?_ _
        go_upto_region 28 with fail
        go_wp2_with fail
        refine (dmust_c wSemi B N Ls p cap hL rb s5 j11 HI11.out hi11 W9 (Below.kp5 HB.out hrb hbs bW9) hrb k_R N_q5.out).mono ?_; rintro e W10 ⟨rfl, ⟨j12, hr, hl_, hi12⟩, hb⟩
        have sW10 := Nat.le_trans sW9 hb.size
        have bW10 := (bW9).trans (Kp.mono hb (fun k h => Or.inl h))
        replace k_R := hr
        replace k_l := Blk.kept k_l hb (by show ¬ _ = rb; omega)
        replace k_t := Blk.kept k_t hb (by show ¬ _ = rb; omega)
        have kpW10 := (kpW9).trans (Kp.mono hb (fun k hk => by have e : k = rb := hk; show k < base ∨ _; omega))
        clear hb hr bW9 sW9
        have HI12 := Lib.hid hl_
        clear hl_ HI11 hi11
        have q_l0 := k_l.cell (i := 0) rfl
        have q_l1 := k_l.cell (i := 1) rfl
        have q_l2 := k_l.cell (i := 2) rfl
        have q_l3 := k_l.cell (i := 3) rfl
        have q_l4 := k_l.cell (i := 4) rfl
        have q_l5 := k_l.cell (i := 5) rfl
        have q_l6 := k_l.cell (i := 6) rfl
        have q_l7 := k_l.cell (i := 7) rfl
        have q_lf := k_l.free
        have q_t0 := k_t.cell (i := 0) rfl
        have q_t1 := k_t.cell (i := 1) rfl
        have q_t2 := k_t.cell (i := 2) rfl
        have q_t3 := k_t.cell (i := 3) rfl
        have q_t4 := k_t.cell (i := 4) rfl
        have q_t5 := k_t.cell (i := 5) rfl
        have q_t6 := k_t.cell (i := 6) rfl
        have q_t7 := k_t.cell (i := 7) rfl
        have q_tf := k_t.free
        go_wp2
        clear q_l0 q_l1 q_l2 q_l3 q_l4 q_l5 q_l6 q_l7 q_lf q_t0 q_t1 q_t2 q_t3 q_t4 q_t5 q_t6 q_t7 q_tf
        obtain ⟨W11, hW11, bW11, sW11, kpW11, k2_R, k2_l, k2_t⟩ : ∃ xW, ((((((((W10.setCell ⟨w.heap.size + 1, 0, none⟩ (.string ⟨ln.toArray⟩)).setCell ⟨w.heap.size + 1, 1, none⟩ (.int .i64 (lh : Nat))).setCell ⟨w.heap.size + 1, 2, none⟩ (.slice a1 n1 c1)).setCell ⟨w.heap.size + 1, 3, none⟩ (.slice a2 n2 c2)).setCell ⟨w.heap.size + 1, 4, none⟩ (.slice va (n3 + 1) vc)).setCell ⟨w.heap.size + 1, 5, none⟩ (.slice a4 n4 c4)).setCell ⟨w.heap.size + 1, 6, none⟩ (.slice a5 n5 c5)).setCell ⟨w.heap.size + 1, 7, none⟩ (.int .i64 (lp : Nat))) = xW ∧ Kp (E5 rb base) w xW ∧ W10.heap.size ≤ xW.heap.size ∧ Kp (fun k => k < base ∨ (w.heap.size ≤ k ∧ k < W8.heap.size)) Wa xW ∧ Blk xW (rb) 57 [.slice p Ls.length cap, .int .i64 (j12 : Nat), .int .i64 (s6.err : Nat), .int .i64 (s6.pos : Nat), .int .i64 (N : Nat)] ∧ Blk xW (w.heap.size) 38 [.string ⟨ln.toArray⟩, .int .i64 (lh : Nat), .slice a1 n1 c1, .slice a2 n2 c2, .slice va (n3 + 1) vc, .slice a4 n4 c4, .slice a5 n5 c5, .int .i64 (lp : Nat)] ∧ Blk xW (w.heap.size + 1) 38 [.string ⟨ln.toArray⟩, .int .i64 (lh : Nat), .slice a1 n1 c1, .slice a2 n2 c2, .slice va (n3 + 1) vc, .slice a4 n4 c4, .slice a5 n5 c5, .int .i64 (lp : Nat)] := ⟨_, rfl, (Kp.s4 (Kp.s4 bW10 (Or.inr (by omega))) (Or.inr (by omega))), by simp only [World.setCell, World.size_alloc, Array.size_modify, Nat.le_refl], (Kp.s4 (Kp.s4 kpW10 (Or.inl (show w.heap.size + 1 < base ∨ (w.heap.size ≤ w.heap.size + 1 ∧ w.heap.size + 1 < W8.heap.size) by omega))) (Or.inl (show w.heap.size + 1 < base ∨ (w.heap.size ≤ w.heap.size + 1 ∧ w.heap.size + 1 < W8.heap.size) by omega))), (Blk.o4 (Blk.o4 k_R (by omega)) (by omega)), (Blk.o4 (Blk.o4 k_l (by omega)) (by omega)), (Blk.cast (Blk.set (Blk.set (Blk.set (Blk.set (Blk.set (Blk.set (Blk.set (Blk.set k_t 0 _) 1 _) 2 _) 3 _) 4 _) 5 _) 6 _) 7 _) rfl)⟩
        rw [hW11]
        clear hW11 k_R k_l k_t
        have k_R := k2_R
        have k_l := k2_l
        have k_t := k2_t
        clear k2_R k2_l k2_t
        exact bodyPost_ret (results_cell_mid rfl _ _ (w.heap.size + 1) _ _ rfl k_t.range Tryz.underlying38 rfl (by kernel_rfl)) rfl ⟨⟨_, _, _, _, _, rfl, (A5.out.kept kpW11 (fun k hk => by rcases hk with h1 | h1 <;> first | exact Or.inl h1 | (right; show ¬ (k < w.heap.size ∨ W8.heap.size ≤ k); omega))).mono (fun _ _ _ => trivial)⟩, ⟨j12, k_R, HI12.out, hi12⟩, bW11⟩
    · have hsort : sortS s = 2 := by unfold sortS; rw [if_neg (by rw [NB1.out]; simp)]; rw [if_pos NB2.out]
      obtain ⟨_, tt, rr, hlt_, _⟩ := sees_true NB2.out
      have hdr : Ls.drop i = tt :: rr := HI.out.symm.trans hlt_
      have hig1 : i < Ls.length := by
        rcases Nat.lt_or_ge i Ls.length with h | h
        · exact h
        · rw [List.drop_eq_nil_of_le h] at hdr; cases hdr
      obtain ⟨s0, h15⟩ : ∃ z, rNext s = z := ⟨_, rfl⟩
      have h := HH.out
      unfold itemS at h
      rw [hsort, if_neg (by decide), NA.out, h15] at h
      injection h with e1 e2
      have HS0 : Hid (SaneS s0) := Lib.hid (HS.out.suf (by rw [← h15]; exact next_suf s))
      have HI0 : Hid (s0.left = Ls.drop (i + 1)) := Lib.hid (by rw [← h15]; unfold rNext; rw [hlt_]; exact drop_next hdr)
      have HE0 : Hid (s0.err = s.err ∧ s0.pos = s.pos) := Lib.hid (by rw [← h15]; exact ⟨rfl, rfl⟩)
      have hi0 : i + 1 ≤ Ls.length := hig1
      obtain ⟨⟨im, sq⟩, hrest⟩ : ∃ z, restS N 2 aa s0 = z := ⟨_, rfl⟩
      rw [hrest] at e1 e2
      dsimp only at e1 e2
      subst e1 e2
      clear hsort hlt_ hdr h15 HH HS
      obtain ⟨⟨nm, s1⟩, q1⟩ : ∃ z, nameS N s0 = z := ⟨_, rfl⟩
      obtain ⟨⟨bx, s3⟩, q2⟩ : ∃ z, boxS N s1 = z := ⟨_, rfl⟩
      obtain ⟨s4, q3⟩ : ∃ z, rMust N s3 wHolds = z := ⟨_, rfl⟩
      obtain ⟨⟨hd, s5⟩, q4⟩ : ∃ z, numS N s4 = z := ⟨_, rfl⟩
      obtain ⟨s6, q5⟩ : ∃ z, rMust N s5 wSemi = z := ⟨_, rfl⟩
      unfold restS at hrest
      rw [if_neg (by decide)] at hrest
      rw [if_pos rfl] at hrest
      simp only [blockS, areaS, pointS, bindS, retS, mustS, manyS, q1, q2, q3, q4, q5] at hrest
      injection hrest with e1 e2
      subst e1 e2
      have N_q1 := Lib.hid q1; have N_q2 := Lib.hid q2; have N_q3 := Lib.hid q3; have N_q4 := Lib.hid q4; have N_q5 := Lib.hid q5
      clear q1 q2 q3 q4 q5
      have q_R0 := k_R.cell (i := 0) rfl
      have q_R1 := k_R.cell (i := 1) rfl
      have q_R2 := k_R.cell (i := 2) rfl
      have q_R3 := k_R.cell (i := 3) rfl
      have q_R4 := k_R.cell (i := 4) rfl
      have q_Rf := k_R.free
      go_upto_region 13 with fail
      clear q_R0 q_R1 q_R2 q_R3 q_R4 q_Rf
      obtain ⟨W5, hW5, bW5, sW5, k2_R, k2_l, k2_t⟩ : ∃ xW, (W4.setCell ⟨rb, 1, none⟩ (.int .i64 ((i : Int) + 1))) = xW ∧ Kp (onlyB rb) w xW ∧ W4.heap.size ≤ xW.heap.size ∧ Blk xW (rb) 57 [.slice p Ls.length cap, .int .i64 ((i : Int) + 1), .int .i64 (s.err : Nat), .int .i64 (s.pos : Nat), .int .i64 (N : Nat)] ∧ Blk xW (w.heap.size) 38 [.string ⟨ln.toArray⟩, .int .i64 (lh : Nat), .slice a1 n1 c1, .slice a2 n2 c2, .slice a3 n3 c3, .slice a4 n4 c4, .slice a5 n5 c5, .int .i64 (lp : Nat)] ∧ Blk xW (w.heap.size + 1) 38 [.string ⟨#[]⟩, .int .i64 0, .slice none 0 0, .slice none 0 0, .slice none 0 0, .slice none 0 0, .slice none 0 0, .int .i64 0] := ⟨_, rfl, (Kp.s1 bW4 (Or.inl rfl)), by simp only [World.setCell, World.size_alloc, Array.size_modify, Nat.le_refl], (Blk.cast (Blk.set k_R 1 _) rfl), (Blk.o1 k_l (by omega)), (Blk.o1 k_t (by omega))⟩
      rw [hW5]
      clear hW5 k_R k_l k_t
      have k_R := k2_R
      have k_l := k2_l
      have k_t := k2_t
      clear k2_R k2_l k2_t
      replace k_R : Blk W5 rb 57 [.slice p Ls.length cap, .int .i64 ((i + 1) : Nat), .int .i64 (s0.err : Nat), .int .i64 (s0.pos : Nat), .int .i64 (N : Nat)] := by rw [HE0.out.1, HE0.out.2]; exact k_R
      go_wp2_with fail
      refine (dname_c B N Ls p cap hL rb s0 (i + 1) HI0.out hi0 W5 (Below.kp HB.out hrb bW5) hrb k_R N_q1.out).mono ?_; rintro e W6 ⟨rfl, ⟨j6, hr, hl_, hi6⟩, hb⟩
      have sW6 := Nat.le_trans sW5 hb.size
      have bW6 := (bW5).trans hb
      replace k_R := hr
      replace k_l := Blk.kept k_l hb (by show ¬ _ = rb; omega)
      replace k_t := Blk.kept k_t hb (by show ¬ _ = rb; omega)
      clear hb hr bW5 sW5
      have HI6 := Lib.hid hl_
      clear hl_ HI0 hi0
      go_wp2_with fail
      refine (dbox_c B N Ls p cap hL rb s1 j6 HI6.out hi6 W6 (Below.kp HB.out hrb bW6) hrb k_R N_q2.out).mono ?_; rintro e W7 ⟨rfl, ⟨j7, hr, hl_, hi7⟩, hb⟩
      have sW7 := Nat.le_trans sW6 hb.size
      have bW7 := (bW6).trans hb
      replace k_R := hr
      replace k_l := Blk.kept k_l hb (by show ¬ _ = rb; omega)
      replace k_t := Blk.kept k_t hb (by show ¬ _ = rb; omega)
      clear hb hr bW6 sW6
      have HI7 := Lib.hid hl_
      clear hl_ HI6 hi6
      go_upto_region 14 with fail
      obtain ⟨W8, hW8, bW8, sW8, k2_R, k2_l, k2_t, k2_e⟩ : ∃ xW, (W7.alloc (.cells #[.string ⟨nm.toArray⟩, .int .i64 (bx.x : Nat), .int .i64 (bx.y : Nat), .int .i64 (bx.x2 : Nat), .int .i64 (bx.y2 : Nat), .int .i64 0, .int .i64 (aa : Nat)] 50)) = xW ∧ Kp (onlyB rb) w xW ∧ W7.heap.size + 1 ≤ xW.heap.size ∧ Blk xW (rb) 57 [.slice p Ls.length cap, .int .i64 (j7 : Nat), .int .i64 (s3.err : Nat), .int .i64 (s3.pos : Nat), .int .i64 (N : Nat)] ∧ Blk xW (w.heap.size) 38 [.string ⟨ln.toArray⟩, .int .i64 (lh : Nat), .slice a1 n1 c1, .slice a2 n2 c2, .slice a3 n3 c3, .slice a4 n4 c4, .slice a5 n5 c5, .int .i64 (lp : Nat)] ∧ Blk xW (w.heap.size + 1) 38 [.string ⟨#[]⟩, .int .i64 0, .slice none 0 0, .slice none 0 0, .slice none 0 0, .slice none 0 0, .slice none 0 0, .int .i64 0] ∧ Blk xW (W7.heap.size) 50 [.string ⟨nm.toArray⟩, .int .i64 (bx.x : Nat), .int .i64 (bx.y : Nat), .int .i64 (bx.x2 : Nat), .int .i64 (bx.y2 : Nat), .int .i64 0, .int .i64 (aa : Nat)] := ⟨_, rfl, (Kp.alloc bW7 _), by simp only [World.setCell, World.size_alloc, Array.size_modify, Nat.le_refl], (Blk.alloc k_R _), (Blk.alloc k_l _), (Blk.alloc k_t _), (Blk.new' _ _ _ (rfl))⟩
      rw [hW8]
      clear hW8 k_R k_l k_t
      have k_R := k2_R
      have k_l := k2_l
      have k_t := k2_t
      have k_e := k2_e
      clear k2_R k2_l k2_t k2_e
      go_wp2_with fail
      refine (dmust_c wHolds B N Ls p cap hL rb s3 j7 HI7.out hi7 W8 (Below.kp HB.out hrb bW8) hrb k_R N_q3.out).mono ?_; rintro e W9 ⟨rfl, ⟨j8, hr, hl_, hi8⟩, hb⟩
      have sW9 := Nat.le_trans sW8 hb.size
      have bW9 := (bW8).trans hb
      replace k_R := hr
      replace k_l := Blk.kept k_l hb (by show ¬ _ = rb; omega)
      replace k_t := Blk.kept k_t hb (by show ¬ _ = rb; omega)
      replace k_e := Blk.kept k_e hb (by show ¬ _ = rb; omega)
      clear hb hr bW8 sW8
      have HI8 := Lib.hid hl_
      clear hl_ HI7 hi7
      go_wp2_with fail
      refine (dnum_c B N Ls p cap hL rb s4 j8 HI8.out hi8 W9 (Below.kp HB.out hrb bW9) hrb k_R N_q4.out).mono ?_; rintro e W10 ⟨rfl, ⟨j9, hr, hl_, hi9⟩, hb⟩
      have sW10 := Nat.le_trans sW9 hb.size
      have bW10 := (bW9).trans hb
      replace k_R := hr
      replace k_l := Blk.kept k_l hb (by show ¬ _ = rb; omega)
      replace k_t := Blk.kept k_t hb (by show ¬ _ = rb; omega)
      replace k_e := Blk.kept k_e hb (by show ¬ _ = rb; omega)
      clear hb hr bW9 sW9
      have HI9 := Lib.hid hl_
      clear hl_ HI8 hi8
      have q_e0 := k_e.cell (i := 0) rfl
      have q_e1 := k_e.cell (i := 1) rfl
      have q_e2 := k_e.cell (i := 2) rfl
      have q_e3 := k_e.cell (i := 3) rfl
      have q_e4 := k_e.cell (i := 4) rfl
      have q_e5 := k_e.cell (i := 5) rfl
      have q_e6 := k_e.cell (i := 6) rfl
      have q_ef := k_e.free
      go_upto_region 16 with fail
      clear q_e0 q_e1 q_e2 q_e3 q_e4 q_e5 q_e6 q_ef
      obtain ⟨W11, hW11, bW11, sW11, k2_R, k2_l, k2_t, k2_e⟩ : ∃ xW, (W10.setCell ⟨W7.heap.size, 5, none⟩ (.int .i64 (hd : Nat))) = xW ∧ Kp (onlyB rb) w xW ∧ W10.heap.size ≤ xW.heap.size ∧ Blk xW (rb) 57 [.slice p Ls.length cap, .int .i64 (j9 : Nat), .int .i64 (s5.err : Nat), .int .i64 (s5.pos : Nat), .int .i64 (N : Nat)] ∧ Blk xW (w.heap.size) 38 [.string ⟨ln.toArray⟩, .int .i64 (lh : Nat), .slice a1 n1 c1, .slice a2 n2 c2, .slice a3 n3 c3, .slice a4 n4 c4, .slice a5 n5 c5, .int .i64 (lp : Nat)] ∧ Blk xW (w.heap.size + 1) 38 [.string ⟨#[]⟩, .int .i64 0, .slice none 0 0, .slice none 0 0, .slice none 0 0, .slice none 0 0, .slice none 0 0, .int .i64 0] ∧ Blk xW (W7.heap.size) 50 [.string ⟨nm.toArray⟩, .int .i64 (bx.x : Nat), .int .i64 (bx.y : Nat), .int .i64 (bx.x2 : Nat), .int .i64 (bx.y2 : Nat), .int .i64 (hd : Nat), .int .i64 (aa : Nat)] := ⟨_, rfl, (Kp.s1 bW10 (Or.inr (by omega))), by simp only [World.setCell, World.size_alloc, Array.size_modify, Nat.le_refl], (Blk.o1 k_R (by omega)), (Blk.o1 k_l (by omega)), (Blk.o1 k_t (by omega)), (Blk.cast (Blk.set k_e 5 _) rfl)⟩
      rw [hW11]
      clear hW11 k_R k_l k_t k_e
      have k_R := k2_R
      have k_l := k2_l
      have k_t := k2_t
      have k_e := k2_e
      clear k2_R k2_l k2_t k2_e
      have h5 := (H5.out.mono (G' := fun k => k < w.heap.size ∨ W11.heap.size ≤ k) (fun k hk _ => Or.inl hk)).kept bW11 (fun k hk => Or.inl (by have e : k = rb := hk; omega))
      have hold : ∀ v ∈ [Value.slice a1 n1 c1, Value.slice a2 n2 c2, Value.slice a3 n3 c3, Value.slice a4 n4 c4, Value.slice a5 n5 c5], ∀ k, v.ownBlock = some k → k < W11.heap.size := fun v hv k hk => by have := (H5.out.lt v hv k hk).2; omega
      obtain ⟨css, hcon, hall⟩ := h5.b2
      have hown : ∀ k, (Value.slice a2 n2 c2).ownBlock = some k → base ≤ k ∧ k < W11.heap.size := fun k hk => own_lt hcon.own hk
      obtain ⟨i0, hi0_, hz0, hz1, hz2⟩ := info_parts6 item2_info
      have hc : areaK.is W11 (fun k => W11.heap.size ≤ k) [.string ⟨nm.toArray⟩, .int .i64 (bx.x : Nat), .int .i64 (bx.y : Nat), .int .i64 (bx.x2 : Nat), .int .i64 (bx.y2 : Nat), .int .i64 (hd : Nat), .int .i64 (aa : Nat)] (⟨nm, bx, hd, aa⟩ : AreaP) := rfl
      have hNW : w.heap.size + 2 ≤ W11.heap.size ∧ W11.heap.size ≤ W11.heap.size := by omega
      have HI0_ := Lib.hid hi0_; have HZ0 := Lib.hid hz0; have HZ1 := Lib.hid hz1; have HZ2 := Lib.hid hz2; have HCON := Lib.hid hcon; have HALL := Lib.hid hall; have HOW := Lib.hid hown; have HC := Lib.hid hc; have HL5 := Lib.hid h5; have HOLD := Lib.hid hold
      have HXL : Hid (css.length + 1 ≤ 1000000) := Lib.hid (by rw [All2.length HALL.out, HNL.out.2.1]; have := HNN.out; omega)
      clear hi0_ hz0 hz1 hz2 hcon hall hown hc h5 hold
      have q_l0 := k_l.cell (i := 0) rfl
      have q_l1 := k_l.cell (i := 1) rfl
      have q_l2 := k_l.cell (i := 2) rfl
      have q_l3 := k_l.cell (i := 3) rfl
      have q_l4 := k_l.cell (i := 4) rfl
      have q_l5 := k_l.cell (i := 5) rfl
      have q_l6 := k_l.cell (i := 6) rfl
      have q_l7 := k_l.cell (i := 7) rfl
      have q_lf := k_l.free
      have q_e0 := k_e.cell (i := 0) rfl
      have q_e1 := k_e.cell (i := 1) rfl
      have q_e2 := k_e.cell (i := 2) rfl
      have q_e3 := k_e.cell (i := 3) rfl
      have q_e4 := k_e.cell (i := 4) rfl
      have q_e5 := k_e.cell (i := 5) rfl
      have q_e6 := k_e.cell (i := 6) rfl
      have q_ef := k_e.free
      go_upto_region 28 with (refine wpList_append_con6 (t := 34) (T := 50) (m := areaK.size) (B := base) Tryz.underlying34 HI0_.out HZ0.out HZ1.out HZ2.out rfl (by decide) (by decide) rfl (.tmp 73) (.tmp 75) rfl _ css [.string ⟨nm.toArray⟩, .int .i64 (bx.x : Nat), .int .i64 (bx.y : Nat), .int .i64 (bx.x2 : Nat), .int .i64 (bx.y2 : Nat), .int .i64 (hd : Nat), .int .i64 (aa : Nat)] rfl (HCON.out.of_block (fun k hk => Below.heap_alloc _ _ _ (HOW.out k hk).2)) W11.heap.size rfl (Blk.new W11 50 [.string ⟨nm.toArray⟩, .int .i64 (bx.x : Nat), .int .i64 (bx.y : Nat), .int .i64 (bx.x2 : Nat), .int .i64 (bx.y2 : Nat), .int .i64 (hd : Nat), .int .i64 (aa : Nat)]) (areaK.len HC.out) (areaK.one HC.out) HXL.out (by rw [World.size_alloc]; omega) ?_; intro v' Wa hcon' hg hat hone; have hgr : ∀ k, k < W11.heap.size → (Value.slice a2 n2 c2).ownBlock ≠ some k → Wa.heap[k]? = W11.heap[k]? := fun k hk hn => (hg.block k (by rw [World.size_alloc]; omega) (fun h => hn h.symm)).trans (Below.heap_alloc _ _ _ hk); have A5 := Lib.hid (HL5.out.area (N := W11.heap.size) (M := (W11.alloc (.cells ([.string ⟨nm.toArray⟩, .int .i64 (bx.x : Nat), .int .i64 (bx.y : Nat), .int .i64 (bx.x2 : Nat), .int .i64 (bx.y2 : Nat), .int .i64 (hd : Nat), .int .i64 (aa : Nat)] : List Value).toArray 50)).heap.size) HALL.out HC.out (by omega) (fun k hk => Or.inr hk) HOLD.out hcon' hgr hat (by rw [World.size_alloc]; omega) (by rw [World.size_alloc]; omega)); have F_R := Lib.hid ((hgr rb k_R.lt (fun e => by have h3 := (HOW.out rb e).1; omega)).trans k_R); have F_l := Lib.hid ((hgr _ k_l.lt (fun e => by have h4 := (H5.out.lt (Value.slice a2 n2 c2) (by simp) _ e).2; omega)).trans k_l); have F_t := Lib.hid ((hgr _ k_t.lt (fun e => by have h4 := (H5.out.lt (Value.slice a2 n2 c2) (by simp) _ e).2; omega)).trans k_t); have FB : Hid (Kp (E5 rb base) w Wa) := Lib.hid (((Kp.mono bW11 (fun k hk => Or.inl hk)).alloc (.cells ([.string ⟨nm.toArray⟩, .int .i64 (bx.x : Nat), .int .i64 (bx.y : Nat), .int .i64 (bx.x2 : Nat), .int .i64 (bx.y2 : Nat), .int .i64 (hd : Nat), .int .i64 (aa : Nat)] : List Value).toArray 50)).grown hg (fun k hk => Or.inl (Or.inr (HOW.out k hk).1))); have FZ : Hid (W11.heap.size + 1 ≤ Wa.heap.size) := Lib.hid (by have := hg.size; rw [World.size_alloc] at this; exact this); have hvl : ∃ a c, v' = .slice a (n2 + 1) c := (by obtain ⟨a, c, e⟩ := A5.out.b2.len6; refine ⟨a, c, ?_⟩; rw [e]; congr 1; unfold areasOf; rw [List.filterMap_append, List.length_append]; have hx := HNL.out.2.1; unfold areasOf at hx; rw [hx]; rfl); obtain ⟨va, vc, hv'⟩ := hvl; subst hv'; clear hcon' hg hat hone hgr; have z_l := (show Blk Wa _ _ _ from F_l.out).cell (i := 3) rfl; have z_lf := (show Blk Wa _ _ _ from F_l.out).free)
      clear q_l0 q_l1 q_l2 q_l3 q_l4 q_l5 q_l6 q_l7 q_lf q_e0 q_e1 q_e2 q_e3 q_e4 q_e5 q_e6 q_ef
      clear k_R k_l k_t k_e
      try clear z_l
      try clear z_lf
      have k_R : Blk Wa (rb) 57 [.slice p Ls.length cap, .int .i64 (j9 : Nat), .int .i64 (s5.err : Nat), .int .i64 (s5.pos : Nat), .int .i64 (N : Nat)] := F_R.out
      have k_l : Blk Wa (w.heap.size) 38 [.string ⟨ln.toArray⟩, .int .i64 (lh : Nat), .slice a1 n1 c1, .slice a2 n2 c2, .slice a3 n3 c3, .slice a4 n4 c4, .slice a5 n5 c5, .int .i64 (lp : Nat)] := F_l.out
      have k_t : Blk Wa (w.heap.size + 1) 38 [.string ⟨#[]⟩, .int .i64 0, .slice none 0 0, .slice none 0 0, .slice none 0 0, .slice none 0 0, .slice none 0 0, .int .i64 0] := F_t.out
      have bWa := FB.out
      have sWa := FZ.out
      clear bW11 FB FZ F_R F_l F_t H5 HL5 HOLD HALL HCON HOW HC HXL HI0_ HZ0 HZ1 HZ2
      obtain ⟨W12, hW12, bW12, sW12, kpW12, k2_R, k2_l, k2_t⟩ : ∃ xW, (Wa.setCell ⟨w.heap.size, 3, none⟩ (.slice va (n2 + 1) vc)) = xW ∧ Kp (E5 rb base) w xW ∧ Wa.heap.size ≤ xW.heap.size ∧ Kp (fun k => k < base ∨ (w.heap.size ≤ k ∧ k < W11.heap.size)) Wa xW ∧ Blk xW (rb) 57 [.slice p Ls.length cap, .int .i64 (j9 : Nat), .int .i64 (s5.err : Nat), .int .i64 (s5.pos : Nat), .int .i64 (N : Nat)] ∧ Blk xW (w.heap.size) 38 [.string ⟨ln.toArray⟩, .int .i64 (lh : Nat), .slice a1 n1 c1, .slice va (n2 + 1) vc, .slice a3 n3 c3, .slice a4 n4 c4, .slice a5 n5 c5, .int .i64 (lp : Nat)] ∧ Blk xW (w.heap.size + 1) 38 [.string ⟨#[]⟩, .int .i64 0, .slice none 0 0, .slice none 0 0, .slice none 0 0, .slice none 0 0, .slice none 0 0, .int .i64 0] := ⟨_, rfl, (Kp.s1 bWa (Or.inr (by omega))), by simp only [World.setCell, World.size_alloc, Array.size_modify, Nat.le_refl], (Kp.s1 (Kp.refl _ _) (Or.inl (show w.heap.size < base ∨ (w.heap.size ≤ w.heap.size ∧ w.heap.size < W11.heap.size) by omega))), (Blk.o1 k_R (by omega)), (Blk.cast (Blk.set k_l 3 _) rfl), (Blk.o1 k_t (by omega))⟩
      rw [hW12]
      clear hW12 k_R k_l k_t
      have k_R := k2_R
      have k_l := k2_l
      have k_t := k2_t
      clear k2_R k2_l k2_t
      go_wp2_with fail
      refine (dmust_c wSemi B N Ls p cap hL rb s5 j9 HI9.out hi9 W12 (Below.kp5 HB.out hrb hbs bW12) hrb k_R N_q5.out).mono ?_; rintro e W13 ⟨rfl, ⟨j10, hr, hl_, hi10⟩, hb⟩
      have sW13 := Nat.le_trans sW12 hb.size
      have bW13 := (bW12).trans (Kp.mono hb (fun k h => Or.inl h))
      replace k_R := hr
      replace k_l := Blk.kept k_l hb (by show ¬ _ = rb; omega)
      replace k_t := Blk.kept k_t hb (by show ¬ _ = rb; omega)
      have kpW13 := (kpW12).trans (Kp.mono hb (fun k hk => by have e : k = rb := hk; show k < base ∨ _; omega))
      clear hb hr bW12 sW12
      have HI10 := Lib.hid hl_
      clear hl_ HI9 hi9
      have q_l0 := k_l.cell (i := 0) rfl
      have q_l1 := k_l.cell (i := 1) rfl
      have q_l2 := k_l.cell (i := 2) rfl
      have q_l3 := k_l.cell (i := 3) rfl
      have q_l4 := k_l.cell (i := 4) rfl
      have q_l5 := k_l.cell (i := 5) rfl
      have q_l6 := k_l.cell (i := 6) rfl
      have q_l7 := k_l.cell (i := 7) rfl
      have q_lf := k_l.free
      have q_t0 := k_t.cell (i := 0) rfl
      have q_t1 := k_t.cell (i := 1) rfl
      have q_t2 := k_t.cell (i := 2) rfl
      have q_t3 := k_t.cell (i := 3) rfl
      have q_t4 := k_t.cell (i := 4) rfl
      have q_t5 := k_t.cell (i := 5) rfl
      have q_t6 := k_t.cell (i := 6) rfl
      have q_t7 := k_t.cell (i := 7) rfl
      have q_tf := k_t.free
      go_wp2
      clear q_l0 q_l1 q_l2 q_l3 q_l4 q_l5 q_l6 q_l7 q_lf q_t0 q_t1 q_t2 q_t3 q_t4 q_t5 q_t6 q_t7 q_tf
      obtain ⟨W14, hW14, bW14, sW14, kpW14, k2_R, k2_l, k2_t⟩ : ∃ xW, ((((((((W13.setCell ⟨w.heap.size + 1, 0, none⟩ (.string ⟨ln.toArray⟩)).setCell ⟨w.heap.size + 1, 1, none⟩ (.int .i64 (lh : Nat))).setCell ⟨w.heap.size + 1, 2, none⟩ (.slice a1 n1 c1)).setCell ⟨w.heap.size + 1, 3, none⟩ (.slice va (n2 + 1) vc)).setCell ⟨w.heap.size + 1, 4, none⟩ (.slice a3 n3 c3)).setCell ⟨w.heap.size + 1, 5, none⟩ (.slice a4 n4 c4)).setCell ⟨w.heap.size + 1, 6, none⟩ (.slice a5 n5 c5)).setCell ⟨w.heap.size + 1, 7, none⟩ (.int .i64 (lp : Nat))) = xW ∧ Kp (E5 rb base) w xW ∧ W13.heap.size ≤ xW.heap.size ∧ Kp (fun k => k < base ∨ (w.heap.size ≤ k ∧ k < W11.heap.size)) Wa xW ∧ Blk xW (rb) 57 [.slice p Ls.length cap, .int .i64 (j10 : Nat), .int .i64 (s6.err : Nat), .int .i64 (s6.pos : Nat), .int .i64 (N : Nat)] ∧ Blk xW (w.heap.size) 38 [.string ⟨ln.toArray⟩, .int .i64 (lh : Nat), .slice a1 n1 c1, .slice va (n2 + 1) vc, .slice a3 n3 c3, .slice a4 n4 c4, .slice a5 n5 c5, .int .i64 (lp : Nat)] ∧ Blk xW (w.heap.size + 1) 38 [.string ⟨ln.toArray⟩, .int .i64 (lh : Nat), .slice a1 n1 c1, .slice va (n2 + 1) vc, .slice a3 n3 c3, .slice a4 n4 c4, .slice a5 n5 c5, .int .i64 (lp : Nat)] := ⟨_, rfl, (Kp.s4 (Kp.s4 bW13 (Or.inr (by omega))) (Or.inr (by omega))), by simp only [World.setCell, World.size_alloc, Array.size_modify, Nat.le_refl], (Kp.s4 (Kp.s4 kpW13 (Or.inl (show w.heap.size + 1 < base ∨ (w.heap.size ≤ w.heap.size + 1 ∧ w.heap.size + 1 < W11.heap.size) by omega))) (Or.inl (show w.heap.size + 1 < base ∨ (w.heap.size ≤ w.heap.size + 1 ∧ w.heap.size + 1 < W11.heap.size) by omega))), (Blk.o4 (Blk.o4 k_R (by omega)) (by omega)), (Blk.o4 (Blk.o4 k_l (by omega)) (by omega)), (Blk.cast (Blk.set (Blk.set (Blk.set (Blk.set (Blk.set (Blk.set (Blk.set (Blk.set k_t 0 _) 1 _) 2 _) 3 _) 4 _) 5 _) 6 _) 7 _) rfl)⟩
      rw [hW14]
      clear hW14 k_R k_l k_t
      have k_R := k2_R
      have k_l := k2_l
      have k_t := k2_t
      clear k2_R k2_l k2_t
      exact bodyPost_ret (results_cell_mid rfl _ _ (w.heap.size + 1) _ _ rfl k_t.range Tryz.underlying38 rfl (by kernel_rfl)) rfl ⟨⟨_, _, _, _, _, rfl, (A5.out.kept kpW14 (fun k hk => by rcases hk with h1 | h1 <;> first | exact Or.inl h1 | (right; show ¬ (k < w.heap.size ∨ W11.heap.size ≤ k); omega))).mono (fun _ _ _ => trivial)⟩, ⟨j10, k_R, HI10.out, hi10⟩, bW14⟩
  · have hsort : sortS s = 1 := by unfold sortS; rw [if_pos NB1.out]
    obtain ⟨_, tt, rr, hlt_, _⟩ := sees_true NB1.out
    have hdr : Ls.drop i = tt :: rr := HI.out.symm.trans hlt_
    have hig1 : i < Ls.length := by
      rcases Nat.lt_or_ge i Ls.length with h | h
      · exact h
      · rw [List.drop_eq_nil_of_le h] at hdr; cases hdr
    obtain ⟨s0, h15⟩ : ∃ z, rNext s = z := ⟨_, rfl⟩
    have h := HH.out
    unfold itemS at h
    rw [hsort, if_neg (by decide), NA.out, h15] at h
    injection h with e1 e2
    have HS0 : Hid (SaneS s0) := Lib.hid (HS.out.suf (by rw [← h15]; exact next_suf s))
    have HI0 : Hid (s0.left = Ls.drop (i + 1)) := Lib.hid (by rw [← h15]; unfold rNext; rw [hlt_]; exact drop_next hdr)
    have HE0 : Hid (s0.err = s.err ∧ s0.pos = s.pos) := Lib.hid (by rw [← h15]; exact ⟨rfl, rfl⟩)
    have hi0 : i + 1 ≤ Ls.length := hig1
    obtain ⟨⟨im, sq⟩, hrest⟩ : ∃ z, restS N 1 aa s0 = z := ⟨_, rfl⟩
    rw [hrest] at e1 e2
    dsimp only at e1 e2
    subst e1 e2
    clear hsort hlt_ hdr h15 HH HS
    obtain ⟨⟨nm, s1⟩, q1⟩ : ∃ z, nameS N s0 = z := ⟨_, rfl⟩
    obtain ⟨s2, q2⟩ : ∃ z, rMust N s1 wOpen = z := ⟨_, rfl⟩
    obtain ⟨⟨rl, s3⟩, q3⟩ : ∃ z, rMany wClose (fun s : St => ([(rowS N s).1], (rowS N s).2)) (s2.left.length + 1) [] s2 = z := ⟨_, rfl⟩
    obtain ⟨s4, q4⟩ : ∃ z, rMust N s3 wClose = z := ⟨_, rfl⟩
    unfold restS at hrest
    rw [if_pos rfl] at hrest
    simp only [blockS, areaS, pointS, bindS, retS, mustS, manyS, q1, q2, q3, q4] at hrest
    injection hrest with e1 e2
    subst e1 e2
    have N_q1 := Lib.hid q1; have N_q2 := Lib.hid q2; have N_q3 := Lib.hid q3; have N_q4 := Lib.hid q4
    clear q1 q2 q3 q4
    have hS1 : SaneS s1 := HS0.out.suf (by have := (name_m (N := N) s0 HS0.out).1; rw [N_q1.out] at this; exact this)
    have hS2 : SaneS s2 := hS1.suf (by have := (must_m (N := N) (x := wOpen) ⟨123, _, rfl, by decide⟩ s1 hS1).1; rw [show (mustS N wOpen s1).2 = s2 from N_q2.out] at this; exact this)
    have HS2 := Lib.hid hS2
    clear hS1 hS2
    have q_R0 := k_R.cell (i := 0) rfl
    have q_R1 := k_R.cell (i := 1) rfl
    have q_R2 := k_R.cell (i := 2) rfl
    have q_R3 := k_R.cell (i := 3) rfl
    have q_R4 := k_R.cell (i := 4) rfl
    have q_Rf := k_R.free
    go_upto_region 4 with fail
    clear q_R0 q_R1 q_R2 q_R3 q_R4 q_Rf
    obtain ⟨W4, hW4, bW4, sW4, k2_R, k2_l, k2_t⟩ : ∃ xW, (W3.setCell ⟨rb, 1, none⟩ (.int .i64 ((i : Int) + 1))) = xW ∧ Kp (onlyB rb) w xW ∧ W3.heap.size ≤ xW.heap.size ∧ Blk xW (rb) 57 [.slice p Ls.length cap, .int .i64 ((i : Int) + 1), .int .i64 (s.err : Nat), .int .i64 (s.pos : Nat), .int .i64 (N : Nat)] ∧ Blk xW (w.heap.size) 38 [.string ⟨ln.toArray⟩, .int .i64 (lh : Nat), .slice a1 n1 c1, .slice a2 n2 c2, .slice a3 n3 c3, .slice a4 n4 c4, .slice a5 n5 c5, .int .i64 (lp : Nat)] ∧ Blk xW (w.heap.size + 1) 38 [.string ⟨#[]⟩, .int .i64 0, .slice none 0 0, .slice none 0 0, .slice none 0 0, .slice none 0 0, .slice none 0 0, .int .i64 0] := ⟨_, rfl, (Kp.s1 bW3 (Or.inl rfl)), by simp only [World.setCell, World.size_alloc, Array.size_modify, Nat.le_refl], (Blk.cast (Blk.set k_R 1 _) rfl), (Blk.o1 k_l (by omega)), (Blk.o1 k_t (by omega))⟩
    rw [hW4]
    clear hW4 k_R k_l k_t
    have k_R := k2_R
    have k_l := k2_l
    have k_t := k2_t
    clear k2_R k2_l k2_t
    replace k_R : Blk W4 rb 57 [.slice p Ls.length cap, .int .i64 ((i + 1) : Nat), .int .i64 (s0.err : Nat), .int .i64 (s0.pos : Nat), .int .i64 (N : Nat)] := by rw [HE0.out.1, HE0.out.2]; exact k_R
    go_wp2_with fail
    refine (dname_c B N Ls p cap hL rb s0 (i + 1) HI0.out hi0 W4 (Below.kp HB.out hrb bW4) hrb k_R N_q1.out).mono ?_; rintro e W5 ⟨rfl, ⟨j1, hr, hl_, hi1⟩, hb⟩
    have sW5 := Nat.le_trans sW4 hb.size
    have bW5 := (bW4).trans hb
    replace k_R := hr
    replace k_l := Blk.kept k_l hb (by show ¬ _ = rb; omega)
    replace k_t := Blk.kept k_t hb (by show ¬ _ = rb; omega)
    clear hb hr bW4 sW4
    have HI1 := Lib.hid hl_
    clear hl_ HI0 hi0
    go_upto_region 5 with fail
    obtain ⟨W6, hW6, bW6, sW6, k2_R, k2_l, k2_t, k2_b⟩ : ∃ xW, (W5.alloc (.cells #[.string ⟨nm.toArray⟩, .slice none 0 0, .int .i64 (aa : Nat)] 41)) = xW ∧ Kp (onlyB rb) w xW ∧ W5.heap.size + 1 ≤ xW.heap.size ∧ Blk xW (rb) 57 [.slice p Ls.length cap, .int .i64 (j1 : Nat), .int .i64 (s1.err : Nat), .int .i64 (s1.pos : Nat), .int .i64 (N : Nat)] ∧ Blk xW (w.heap.size) 38 [.string ⟨ln.toArray⟩, .int .i64 (lh : Nat), .slice a1 n1 c1, .slice a2 n2 c2, .slice a3 n3 c3, .slice a4 n4 c4, .slice a5 n5 c5, .int .i64 (lp : Nat)] ∧ Blk xW (w.heap.size + 1) 38 [.string ⟨#[]⟩, .int .i64 0, .slice none 0 0, .slice none 0 0, .slice none 0 0, .slice none 0 0, .slice none 0 0, .int .i64 0] ∧ Blk xW (W5.heap.size) 41 [.string ⟨nm.toArray⟩, .slice none 0 0, .int .i64 (aa : Nat)] := ⟨_, rfl, (Kp.alloc bW5 _), by simp only [World.setCell, World.size_alloc, Array.size_modify, Nat.le_refl], (Blk.alloc k_R _), (Blk.alloc k_l _), (Blk.alloc k_t _), (Blk.new' _ _ _ (rfl))⟩
    rw [hW6]
    clear hW6 k_R k_l k_t
    have k_R := k2_R
    have k_l := k2_l
    have k_t := k2_t
    have k_b := k2_b
    clear k2_R k2_l k2_t k2_b
    go_wp2_with fail
    refine (dmust_c wOpen B N Ls p cap hL rb s1 j1 HI1.out hi1 W6 (Below.kp HB.out hrb bW6) hrb k_R N_q2.out).mono ?_; rintro e W7 ⟨rfl, ⟨j2, hr, hl_, hi2⟩, hb⟩
    have sW7 := Nat.le_trans sW6 hb.size
    have bW7 := (bW6).trans hb
    replace k_R := hr
    replace k_l := Blk.kept k_l hb (by show ¬ _ = rb; omega)
    replace k_t := Blk.kept k_t hb (by show ¬ _ = rb; omega)
    replace k_b := Blk.kept k_b hb (by show ¬ _ = rb; omega)
    clear hb hr bW6 sW6
    have HI2 := Lib.hid hl_
    clear hl_ HI1 hi1
    go_upto_region 6 with fail
    have hbase2 : w.heap.size + 2 ≤ W5.heap.size ∧ W5.heap.size < W7.heap.size ∧ rb < W7.heap.size := by omega
    have s0W7 : W7.heap.size ≤ W7.heap.size := Nat.le_refl _
    clear sW7
    have sW7 := s0W7
    clear s0W7
    have HBN := Lib.hid (building_nil rowK W7 (fun k => W7.heap.size ≤ k ∧ (Value.slice none 0 0).ownBlock ≠ some k) W7.heap.size 44)
    go_loopw [] (fun wr => ∃ (ml : List RowP) (ma : Option Addr) (mc : Nat) (sg : St) (ig f : Nat), Hid (rMany wClose (fun s : St => ([(rowS N s).1], (rowS N s).2)) f ml sg = (rl, s3)) ∧ Hid (sg.err = 0 → sg.left.length + 1 ≤ f) ∧ Hid (sg.left = Ls.drop ig) ∧ Hid (ig ≤ Ls.length) ∧ Hid (SaneS sg) ∧ Hid (ml.length + sg.left.length ≤ 5000 ∨ sg.err ≠ 0) ∧ Hid (Building rowK wr (fun k => W7.heap.size ≤ k ∧ (Value.slice ma ml.length mc).ownBlock ≠ some k) W7.heap.size 44 (.slice ma ml.length mc) ml) ∧ Hid (Blk wr (rb) 57 [.slice p Ls.length cap, .int .i64 (ig : Nat), .int .i64 (sg.err : Nat), .int .i64 (sg.pos : Nat), .int .i64 (N : Nat)]) ∧ Hid (Blk wr (w.heap.size) 38 [.string ⟨ln.toArray⟩, .int .i64 (lh : Nat), .slice a1 n1 c1, .slice a2 n2 c2, .slice a3 n3 c3, .slice a4 n4 c4, .slice a5 n5 c5, .int .i64 (lp : Nat)]) ∧ Hid (Blk wr (w.heap.size + 1) 38 [.string ⟨#[]⟩, .int .i64 0, .slice none 0 0, .slice none 0 0, .slice none 0 0, .slice none 0 0, .slice none 0 0, .int .i64 0]) ∧ Hid (Blk wr (W5.heap.size) 41 [.string ⟨nm.toArray⟩, .slice ma ml.length mc, .int .i64 (aa : Nat)]) ∧ Hid (Kp (onlyB rb) w wr) ∧ Hid (W7.heap.size ≤ wr.heap.size)) (fun wr => left6 Ls.length rb wr)
    case atStart => exact ⟨[], none, 0, s2, j2, s2.left.length + 1, N_q3, Lib.hid (fun _ => Nat.le_refl _), HI2, Lib.hid hi2, HS2, Lib.hid (Or.inl (by rw [List.length_nil, Nat.zero_add]; exact HS2.out.2)), HBN, Lib.hid k_R, Lib.hid k_l, Lib.hid k_t, Lib.hid k_b, Lib.hid bW7, Lib.hid (by omega)⟩
    case round =>
      clear HBN N_q3 HS2
      obtain ⟨ml, ma, mc, sg, ig, f, HM, HF, HIg, HIL, HSG, HLN, HMB, J_R, J_l, J_t, J_b, Jb, Jz⟩ := hrel
      clear k_R k_l k_t k_b bW7 sW7
      have k_R := J_R.out
      have k_l := J_l.out
      have k_t := J_t.out
      have k_b := J_b.out
      have bwr := Jb.out
      have swr := Jz.out
      clear J_R J_l J_t J_b Jb Jz
      have hig := HIL.out
      have hleft := left6_of (n := Ls.length) k_R
      have HLEFT := Lib.hid hleft
      clear hleft
      by_cases h0 : sg.err = 0
      rotate_left
      · have hm := HM.out
        rw [many_err h0] at hm
        injection hm with e1 e2
        subst e1 e2
        have e0 : (((sg.err : Nat) : Int) == 0) = false := by simp [h0]
        clear h0
        have q_R0 := k_R.cell (i := 0) rfl
        have q_R1 := k_R.cell (i := 1) rfl
        have q_R2 := k_R.cell (i := 2) rfl
        have q_R3 := k_R.cell (i := 3) rfl
        have q_R4 := k_R.cell (i := 4) rfl
        have q_Rf := k_R.free
        go_upto_region 8 with fail
        clear q_R0 q_R1 q_R2 q_R3 q_R4 q_Rf
        clear e0
        have HML := Lib.hid (HMB.out.done (F' := fun k => W7.heap.size ≤ k) (fun k hk _ => hk.1) (fun k hk => hk))
        go_wp2_with fail
        refine (dmust_c wClose B N Ls p cap hL rb sg ig HIg.out hig wr (Below.kp HB.out hrb bwr) hrb k_R N_q4.out).mono ?_; rintro e W8 ⟨rfl, ⟨j3, hr, hl_, hi3⟩, hb⟩
        have sW8 := Nat.le_trans swr hb.size
        have bW8 := (bwr).trans hb
        replace k_R := hr
        replace k_l := Blk.kept k_l hb (by show ¬ _ = rb; omega)
        replace k_t := Blk.kept k_t hb (by show ¬ _ = rb; omega)
        replace k_b := Blk.kept k_b hb (by show ¬ _ = rb; omega)
        have kpW8 := (Kp.refl (fun k => k < W7.heap.size) wr).trans (Kp.mono hb (fun k hk => by have e : k = rb := hk; show k < _; omega))
        clear hb hr bwr swr
        have HI3 := Lib.hid hl_
        clear hl_ HIg hig
        have h5 := (H5.out.mono (G' := fun k => k < w.heap.size ∨ W7.heap.size ≤ k) (fun k hk _ => Or.inl hk)).kept bW8 (fun k hk => Or.inl (by have e : k = rb := hk; omega))
        have hold : ∀ v ∈ [Value.slice a1 n1 c1, Value.slice a2 n2 c2, Value.slice a3 n3 c3, Value.slice a4 n4 c4, Value.slice a5 n5 c5], ∀ k, v.ownBlock = some k → k < W7.heap.size := fun v hv k hk => by have := (H5.out.lt v hv k hk).2; omega
        obtain ⟨css, hcon, hall⟩ := h5.b1
        have hown : ∀ k, (Value.slice a1 n1 c1).ownBlock = some k → base ≤ k ∧ k < W8.heap.size := fun k hk => own_lt hcon.own hk
        obtain ⟨i0, hi0_, hz0, hz1, hz2⟩ := info_parts6 item1_info
        have hc : blockK.is W8 (fun k => W7.heap.size ≤ k) [.string ⟨nm.toArray⟩, .slice ma ml.length mc, .int .i64 (aa : Nat)] (⟨nm, ml, aa⟩ : BlockP) := ⟨_, rfl, HML.out.kept (fun k hk hlt => kpW8.block k hlt (by have e : W7.heap.size ≤ k := hk; show ¬ k < _; omega))⟩
        have hNW : w.heap.size + 2 ≤ W7.heap.size ∧ W7.heap.size ≤ W8.heap.size := by omega
        have HI0_ := Lib.hid hi0_; have HZ0 := Lib.hid hz0; have HZ1 := Lib.hid hz1; have HZ2 := Lib.hid hz2; have HCON := Lib.hid hcon; have HALL := Lib.hid hall; have HOW := Lib.hid hown; have HC := Lib.hid hc; have HL5 := Lib.hid h5; have HOLD := Lib.hid hold
        have HXL : Hid (css.length + 1 ≤ 1000000) := Lib.hid (by rw [All2.length HALL.out, HNL.out.1]; have := HNN.out; omega)
        clear hi0_ hz0 hz1 hz2 hcon hall hown hc h5 hold
        clear kpW8
        have q_l0 := k_l.cell (i := 0) rfl
        have q_l1 := k_l.cell (i := 1) rfl
        have q_l2 := k_l.cell (i := 2) rfl
        have q_l3 := k_l.cell (i := 3) rfl
        have q_l4 := k_l.cell (i := 4) rfl
        have q_l5 := k_l.cell (i := 5) rfl
        have q_l6 := k_l.cell (i := 6) rfl
        have q_l7 := k_l.cell (i := 7) rfl
        have q_lf := k_l.free
        have q_b0 := k_b.cell (i := 0) rfl
        have q_b1 := k_b.cell (i := 1) rfl
        have q_b2 := k_b.cell (i := 2) rfl
        have q_bf := k_b.free
        go_upto_region 10 with (refine wpList_append_con6 (t := 33) (T := 41) (m := blockK.size) (B := base) Tryz.underlying33 HI0_.out HZ0.out HZ1.out HZ2.out rfl (by decide) (by decide) rfl (.tmp 46) (.tmp 48) rfl _ css [.string ⟨nm.toArray⟩, .slice ma ml.length mc, .int .i64 (aa : Nat)] rfl (HCON.out.of_block (fun k hk => Below.heap_alloc _ _ _ (HOW.out k hk).2)) W8.heap.size rfl (Blk.new W8 41 [.string ⟨nm.toArray⟩, .slice ma ml.length mc, .int .i64 (aa : Nat)]) (blockK.len HC.out) (blockK.one HC.out) HXL.out (by rw [World.size_alloc]; omega) ?_; intro v' Wa hcon' hg hat hone; have hgr : ∀ k, k < W8.heap.size → (Value.slice a1 n1 c1).ownBlock ≠ some k → Wa.heap[k]? = W8.heap[k]? := fun k hk hn => (hg.block k (by rw [World.size_alloc]; omega) (fun h => hn h.symm)).trans (Below.heap_alloc _ _ _ hk); have A5 := Lib.hid (HL5.out.block (N := W7.heap.size) (M := (W8.alloc (.cells ([.string ⟨nm.toArray⟩, .slice ma ml.length mc, .int .i64 (aa : Nat)] : List Value).toArray 41)).heap.size) HALL.out HC.out (by omega) (fun k hk => Or.inr hk) HOLD.out hcon' hgr hat (by rw [World.size_alloc]; omega) (by rw [World.size_alloc]; omega)); have F_R := Lib.hid ((hgr rb k_R.lt (fun e => by have h3 := (HOW.out rb e).1; omega)).trans k_R); have F_l := Lib.hid ((hgr _ k_l.lt (fun e => by have h4 := (H5.out.lt (Value.slice a1 n1 c1) (by simp) _ e).2; omega)).trans k_l); have F_t := Lib.hid ((hgr _ k_t.lt (fun e => by have h4 := (H5.out.lt (Value.slice a1 n1 c1) (by simp) _ e).2; omega)).trans k_t); have FB : Hid (Kp (E5 rb base) w Wa) := Lib.hid (((Kp.mono bW8 (fun k hk => Or.inl hk)).alloc (.cells ([.string ⟨nm.toArray⟩, .slice ma ml.length mc, .int .i64 (aa : Nat)] : List Value).toArray 41)).grown hg (fun k hk => Or.inl (Or.inr (HOW.out k hk).1))); have FZ : Hid (W8.heap.size + 1 ≤ Wa.heap.size) := Lib.hid (by have := hg.size; rw [World.size_alloc] at this; exact this); have hvl : ∃ a c, v' = .slice a (n1 + 1) c := (by obtain ⟨a, c, e⟩ := A5.out.b1.len6; refine ⟨a, c, ?_⟩; rw [e]; congr 1; unfold blocksOf; rw [List.filterMap_append, List.length_append]; have hx := HNL.out.1; unfold blocksOf at hx; rw [hx]; rfl); obtain ⟨va, vc, hv'⟩ := hvl; subst hv'; clear hcon' hg hat hone hgr; have z_l := (show Blk Wa _ _ _ from F_l.out).cell (i := 2) rfl; have z_lf := (show Blk Wa _ _ _ from F_l.out).free)
        clear q_l0 q_l1 q_l2 q_l3 q_l4 q_l5 q_l6 q_l7 q_lf q_b0 q_b1 q_b2 q_bf
        clear k_R k_l k_t k_b
        try clear z_l
        try clear z_lf
        have k_R : Blk Wa (rb) 57 [.slice p Ls.length cap, .int .i64 (j3 : Nat), .int .i64 (s4.err : Nat), .int .i64 (s4.pos : Nat), .int .i64 (N : Nat)] := F_R.out
        have k_l : Blk Wa (w.heap.size) 38 [.string ⟨ln.toArray⟩, .int .i64 (lh : Nat), .slice a1 n1 c1, .slice a2 n2 c2, .slice a3 n3 c3, .slice a4 n4 c4, .slice a5 n5 c5, .int .i64 (lp : Nat)] := F_l.out
        have k_t : Blk Wa (w.heap.size + 1) 38 [.string ⟨#[]⟩, .int .i64 0, .slice none 0 0, .slice none 0 0, .slice none 0 0, .slice none 0 0, .slice none 0 0, .int .i64 0] := F_t.out
        have bWa := FB.out
        have sWa := FZ.out
        clear bW8 FB FZ F_R F_l F_t H5 HL5 HOLD HALL HCON HOW HC HXL HI0_ HZ0 HZ1 HZ2
        obtain ⟨W9, hW9, bW9, sW9, kpW9, k2_R, k2_l, k2_t⟩ : ∃ xW, (Wa.setCell ⟨w.heap.size, 2, none⟩ (.slice va (n1 + 1) vc)) = xW ∧ Kp (E5 rb base) w xW ∧ Wa.heap.size ≤ xW.heap.size ∧ Kp (fun k => k < base ∨ (w.heap.size ≤ k ∧ k < W7.heap.size)) Wa xW ∧ Blk xW (rb) 57 [.slice p Ls.length cap, .int .i64 (j3 : Nat), .int .i64 (s4.err : Nat), .int .i64 (s4.pos : Nat), .int .i64 (N : Nat)] ∧ Blk xW (w.heap.size) 38 [.string ⟨ln.toArray⟩, .int .i64 (lh : Nat), .slice va (n1 + 1) vc, .slice a2 n2 c2, .slice a3 n3 c3, .slice a4 n4 c4, .slice a5 n5 c5, .int .i64 (lp : Nat)] ∧ Blk xW (w.heap.size + 1) 38 [.string ⟨#[]⟩, .int .i64 0, .slice none 0 0, .slice none 0 0, .slice none 0 0, .slice none 0 0, .slice none 0 0, .int .i64 0] := ⟨_, rfl, (Kp.s1 bWa (Or.inr (by omega))), by simp only [World.setCell, World.size_alloc, Array.size_modify, Nat.le_refl], (Kp.s1 (Kp.refl _ _) (Or.inl (show w.heap.size < base ∨ (w.heap.size ≤ w.heap.size ∧ w.heap.size < W7.heap.size) by omega))), (Blk.o1 k_R (by omega)), (Blk.cast (Blk.set k_l 2 _) rfl), (Blk.o1 k_t (by omega))⟩
        rw [hW9]
        clear hW9 k_R k_l k_t
        have k_R := k2_R
        have k_l := k2_l
        have k_t := k2_t
        clear k2_R k2_l k2_t
        have q_l0 := k_l.cell (i := 0) rfl
        have q_l1 := k_l.cell (i := 1) rfl
        have q_l2 := k_l.cell (i := 2) rfl
        have q_l3 := k_l.cell (i := 3) rfl
        have q_l4 := k_l.cell (i := 4) rfl
        have q_l5 := k_l.cell (i := 5) rfl
        have q_l6 := k_l.cell (i := 6) rfl
        have q_l7 := k_l.cell (i := 7) rfl
        have q_lf := k_l.free
        have q_t0 := k_t.cell (i := 0) rfl
        have q_t1 := k_t.cell (i := 1) rfl
        have q_t2 := k_t.cell (i := 2) rfl
        have q_t3 := k_t.cell (i := 3) rfl
        have q_t4 := k_t.cell (i := 4) rfl
        have q_t5 := k_t.cell (i := 5) rfl
        have q_t6 := k_t.cell (i := 6) rfl
        have q_t7 := k_t.cell (i := 7) rfl
        have q_tf := k_t.free
        go_wp2
        clear q_l0 q_l1 q_l2 q_l3 q_l4 q_l5 q_l6 q_l7 q_lf q_t0 q_t1 q_t2 q_t3 q_t4 q_t5 q_t6 q_t7 q_tf
        obtain ⟨W10, hW10, bW10, sW10, kpW10, k2_R, k2_l, k2_t⟩ : ∃ xW, ((((((((W9.setCell ⟨w.heap.size + 1, 0, none⟩ (.string ⟨ln.toArray⟩)).setCell ⟨w.heap.size + 1, 1, none⟩ (.int .i64 (lh : Nat))).setCell ⟨w.heap.size + 1, 2, none⟩ (.slice va (n1 + 1) vc)).setCell ⟨w.heap.size + 1, 3, none⟩ (.slice a2 n2 c2)).setCell ⟨w.heap.size + 1, 4, none⟩ (.slice a3 n3 c3)).setCell ⟨w.heap.size + 1, 5, none⟩ (.slice a4 n4 c4)).setCell ⟨w.heap.size + 1, 6, none⟩ (.slice a5 n5 c5)).setCell ⟨w.heap.size + 1, 7, none⟩ (.int .i64 (lp : Nat))) = xW ∧ Kp (E5 rb base) w xW ∧ W9.heap.size ≤ xW.heap.size ∧ Kp (fun k => k < base ∨ (w.heap.size ≤ k ∧ k < W7.heap.size)) Wa xW ∧ Blk xW (rb) 57 [.slice p Ls.length cap, .int .i64 (j3 : Nat), .int .i64 (s4.err : Nat), .int .i64 (s4.pos : Nat), .int .i64 (N : Nat)] ∧ Blk xW (w.heap.size) 38 [.string ⟨ln.toArray⟩, .int .i64 (lh : Nat), .slice va (n1 + 1) vc, .slice a2 n2 c2, .slice a3 n3 c3, .slice a4 n4 c4, .slice a5 n5 c5, .int .i64 (lp : Nat)] ∧ Blk xW (w.heap.size + 1) 38 [.string ⟨ln.toArray⟩, .int .i64 (lh : Nat), .slice va (n1 + 1) vc, .slice a2 n2 c2, .slice a3 n3 c3, .slice a4 n4 c4, .slice a5 n5 c5, .int .i64 (lp : Nat)] := ⟨_, rfl, (Kp.s4 (Kp.s4 bW9 (Or.inr (by omega))) (Or.inr (by omega))), by simp only [World.setCell, World.size_alloc, Array.size_modify, Nat.le_refl], (Kp.s4 (Kp.s4 kpW9 (Or.inl (show w.heap.size + 1 < base ∨ (w.heap.size ≤ w.heap.size + 1 ∧ w.heap.size + 1 < W7.heap.size) by omega))) (Or.inl (show w.heap.size + 1 < base ∨ (w.heap.size ≤ w.heap.size + 1 ∧ w.heap.size + 1 < W7.heap.size) by omega))), (Blk.o4 (Blk.o4 k_R (by omega)) (by omega)), (Blk.o4 (Blk.o4 k_l (by omega)) (by omega)), (Blk.cast (Blk.set (Blk.set (Blk.set (Blk.set (Blk.set (Blk.set (Blk.set (Blk.set k_t 0 _) 1 _) 2 _) 3 _) 4 _) 5 _) 6 _) 7 _) rfl)⟩
        rw [hW10]
        clear hW10 k_R k_l k_t
        have k_R := k2_R
        have k_l := k2_l
        have k_t := k2_t
        clear k2_R k2_l k2_t
        exact bodyPost_ret (results_cell_mid rfl _ _ (w.heap.size + 1) _ _ rfl k_t.range Tryz.underlying38 rfl (by kernel_rfl)) rfl ⟨⟨_, _, _, _, _, rfl, (A5.out.kept kpW10 (fun k hk => by rcases hk with h1 | h1 <;> first | exact Or.inl h1 | (right; show ¬ (k < w.heap.size ∨ W7.heap.size ≤ k); omega))).mono (fun _ _ _ => trivial)⟩, ⟨j3, k_R, HI3.out, hi3⟩, bW10⟩
      have e0 : (((sg.err : Nat) : Int) == 0) = true := by simp [h0]
      obtain ⟨bz, hbz⟩ : ∃ z, rSees sg wClose = z := ⟨_, rfl⟩
      have NBZ := Lib.hid hbz
      clear hbz
      have q_R0 := k_R.cell (i := 0) rfl
      have q_R1 := k_R.cell (i := 1) rfl
      have q_R2 := k_R.cell (i := 2) rfl
      have q_R3 := k_R.cell (i := 3) rfl
      have q_R4 := k_R.cell (i := 4) rfl
      have q_Rf := k_R.free
      have hsees := dsees_any wClose B N Ls p cap hL rb sg ig HIg.out hig wr (Below.kp HB.out hrb bwr) hrb k_R
      rw [NBZ.out] at hsees
      have HSEES := Lib.hid hsees
      clear hsees
      go_wp2_with fail
      refine (HSEES.out).mono ?_; rintro e W8 ⟨rfl, hb0⟩
      clear q_R0 q_R1 q_R2 q_R3 q_R4 q_Rf
      have hb : Kp (fun _ => False) wr W8 := Kp.of_below hb0
      clear hb0
      have sW8 := Nat.le_trans swr hb.size
      have bW8 := (bwr).trans (Kp.mono hb (fun _ h => h.elim))
      replace k_R := Blk.kept k_R hb (fun h => h)
      replace k_l := Blk.kept k_l hb (fun h => h)
      replace k_t := Blk.kept k_t hb (fun h => h)
      replace k_b := Blk.kept k_b hb (fun h => h)
      have kpW8 := (Kp.refl (fun k => k < W7.heap.size) wr).trans (Kp.mono hb (fun _ h => h.elim))
      clear hb bwr swr
      clear e0 HSEES
      cases bz
      rotate_left
      · have hm := HM.out
        rw [many_end NBZ.out] at hm
        injection hm with e1 e2
        subst e1 e2
        have HMB2 := Lib.hid (HMB.out.shift6 kpW8)
        clear kpW8 HMB
        go_upto_region 8 with fail
        have HML := Lib.hid (HMB2.out.done (F' := fun k => W7.heap.size ≤ k) (fun k hk _ => hk.1) (fun k hk => hk))
        go_wp2_with fail
        refine (dmust_c wClose B N Ls p cap hL rb sg ig HIg.out hig W8 (Below.kp HB.out hrb bW8) hrb k_R N_q4.out).mono ?_; rintro e W9 ⟨rfl, ⟨j4, hr, hl_, hi4⟩, hb⟩
        have sW9 := Nat.le_trans sW8 hb.size
        have bW9 := (bW8).trans hb
        replace k_R := hr
        replace k_l := Blk.kept k_l hb (by show ¬ _ = rb; omega)
        replace k_t := Blk.kept k_t hb (by show ¬ _ = rb; omega)
        replace k_b := Blk.kept k_b hb (by show ¬ _ = rb; omega)
        have kpW9 := (Kp.refl (fun k => k < W7.heap.size) W8).trans (Kp.mono hb (fun k hk => by have e : k = rb := hk; show k < _; omega))
        clear hb hr bW8 sW8
        have HI4 := Lib.hid hl_
        clear hl_ HIg hig
        have h5 := (H5.out.mono (G' := fun k => k < w.heap.size ∨ W7.heap.size ≤ k) (fun k hk _ => Or.inl hk)).kept bW9 (fun k hk => Or.inl (by have e : k = rb := hk; omega))
        have hold : ∀ v ∈ [Value.slice a1 n1 c1, Value.slice a2 n2 c2, Value.slice a3 n3 c3, Value.slice a4 n4 c4, Value.slice a5 n5 c5], ∀ k, v.ownBlock = some k → k < W7.heap.size := fun v hv k hk => by have := (H5.out.lt v hv k hk).2; omega
        obtain ⟨css, hcon, hall⟩ := h5.b1
        have hown : ∀ k, (Value.slice a1 n1 c1).ownBlock = some k → base ≤ k ∧ k < W9.heap.size := fun k hk => own_lt hcon.own hk
        obtain ⟨i0, hi0_, hz0, hz1, hz2⟩ := info_parts6 item1_info
        have hc : blockK.is W9 (fun k => W7.heap.size ≤ k) [.string ⟨nm.toArray⟩, .slice ma ml.length mc, .int .i64 (aa : Nat)] (⟨nm, ml, aa⟩ : BlockP) := ⟨_, rfl, HML.out.kept (fun k hk hlt => kpW9.block k hlt (by have e : W7.heap.size ≤ k := hk; show ¬ k < _; omega))⟩
        have hNW : w.heap.size + 2 ≤ W7.heap.size ∧ W7.heap.size ≤ W9.heap.size := by omega
        have HI0_ := Lib.hid hi0_; have HZ0 := Lib.hid hz0; have HZ1 := Lib.hid hz1; have HZ2 := Lib.hid hz2; have HCON := Lib.hid hcon; have HALL := Lib.hid hall; have HOW := Lib.hid hown; have HC := Lib.hid hc; have HL5 := Lib.hid h5; have HOLD := Lib.hid hold
        have HXL : Hid (css.length + 1 ≤ 1000000) := Lib.hid (by rw [All2.length HALL.out, HNL.out.1]; have := HNN.out; omega)
        clear hi0_ hz0 hz1 hz2 hcon hall hown hc h5 hold
        clear kpW9
        have q_l0 := k_l.cell (i := 0) rfl
        have q_l1 := k_l.cell (i := 1) rfl
        have q_l2 := k_l.cell (i := 2) rfl
        have q_l3 := k_l.cell (i := 3) rfl
        have q_l4 := k_l.cell (i := 4) rfl
        have q_l5 := k_l.cell (i := 5) rfl
        have q_l6 := k_l.cell (i := 6) rfl
        have q_l7 := k_l.cell (i := 7) rfl
        have q_lf := k_l.free
        have q_b0 := k_b.cell (i := 0) rfl
        have q_b1 := k_b.cell (i := 1) rfl
        have q_b2 := k_b.cell (i := 2) rfl
        have q_bf := k_b.free
        go_upto_region 10 with (refine wpList_append_con6 (t := 33) (T := 41) (m := blockK.size) (B := base) Tryz.underlying33 HI0_.out HZ0.out HZ1.out HZ2.out rfl (by decide) (by decide) rfl (.tmp 46) (.tmp 48) rfl _ css [.string ⟨nm.toArray⟩, .slice ma ml.length mc, .int .i64 (aa : Nat)] rfl (HCON.out.of_block (fun k hk => Below.heap_alloc _ _ _ (HOW.out k hk).2)) W9.heap.size rfl (Blk.new W9 41 [.string ⟨nm.toArray⟩, .slice ma ml.length mc, .int .i64 (aa : Nat)]) (blockK.len HC.out) (blockK.one HC.out) HXL.out (by rw [World.size_alloc]; omega) ?_; intro v' Wa hcon' hg hat hone; have hgr : ∀ k, k < W9.heap.size → (Value.slice a1 n1 c1).ownBlock ≠ some k → Wa.heap[k]? = W9.heap[k]? := fun k hk hn => (hg.block k (by rw [World.size_alloc]; omega) (fun h => hn h.symm)).trans (Below.heap_alloc _ _ _ hk); have A5 := Lib.hid (HL5.out.block (N := W7.heap.size) (M := (W9.alloc (.cells ([.string ⟨nm.toArray⟩, .slice ma ml.length mc, .int .i64 (aa : Nat)] : List Value).toArray 41)).heap.size) HALL.out HC.out (by omega) (fun k hk => Or.inr hk) HOLD.out hcon' hgr hat (by rw [World.size_alloc]; omega) (by rw [World.size_alloc]; omega)); have F_R := Lib.hid ((hgr rb k_R.lt (fun e => by have h3 := (HOW.out rb e).1; omega)).trans k_R); have F_l := Lib.hid ((hgr _ k_l.lt (fun e => by have h4 := (H5.out.lt (Value.slice a1 n1 c1) (by simp) _ e).2; omega)).trans k_l); have F_t := Lib.hid ((hgr _ k_t.lt (fun e => by have h4 := (H5.out.lt (Value.slice a1 n1 c1) (by simp) _ e).2; omega)).trans k_t); have FB : Hid (Kp (E5 rb base) w Wa) := Lib.hid (((Kp.mono bW9 (fun k hk => Or.inl hk)).alloc (.cells ([.string ⟨nm.toArray⟩, .slice ma ml.length mc, .int .i64 (aa : Nat)] : List Value).toArray 41)).grown hg (fun k hk => Or.inl (Or.inr (HOW.out k hk).1))); have FZ : Hid (W9.heap.size + 1 ≤ Wa.heap.size) := Lib.hid (by have := hg.size; rw [World.size_alloc] at this; exact this); have hvl : ∃ a c, v' = .slice a (n1 + 1) c := (by obtain ⟨a, c, e⟩ := A5.out.b1.len6; refine ⟨a, c, ?_⟩; rw [e]; congr 1; unfold blocksOf; rw [List.filterMap_append, List.length_append]; have hx := HNL.out.1; unfold blocksOf at hx; rw [hx]; rfl); obtain ⟨va, vc, hv'⟩ := hvl; subst hv'; clear hcon' hg hat hone hgr; have z_l := (show Blk Wa _ _ _ from F_l.out).cell (i := 2) rfl; have z_lf := (show Blk Wa _ _ _ from F_l.out).free)
        clear q_l0 q_l1 q_l2 q_l3 q_l4 q_l5 q_l6 q_l7 q_lf q_b0 q_b1 q_b2 q_bf
        clear k_R k_l k_t k_b
        try clear z_l
        try clear z_lf
        have k_R : Blk Wa (rb) 57 [.slice p Ls.length cap, .int .i64 (j4 : Nat), .int .i64 (s4.err : Nat), .int .i64 (s4.pos : Nat), .int .i64 (N : Nat)] := F_R.out
        have k_l : Blk Wa (w.heap.size) 38 [.string ⟨ln.toArray⟩, .int .i64 (lh : Nat), .slice a1 n1 c1, .slice a2 n2 c2, .slice a3 n3 c3, .slice a4 n4 c4, .slice a5 n5 c5, .int .i64 (lp : Nat)] := F_l.out
        have k_t : Blk Wa (w.heap.size + 1) 38 [.string ⟨#[]⟩, .int .i64 0, .slice none 0 0, .slice none 0 0, .slice none 0 0, .slice none 0 0, .slice none 0 0, .int .i64 0] := F_t.out
        have bWa := FB.out
        have sWa := FZ.out
        clear bW9 FB FZ F_R F_l F_t H5 HL5 HOLD HALL HCON HOW HC HXL HI0_ HZ0 HZ1 HZ2
        obtain ⟨W10, hW10, bW10, sW10, kpW10, k2_R, k2_l, k2_t⟩ : ∃ xW, (Wa.setCell ⟨w.heap.size, 2, none⟩ (.slice va (n1 + 1) vc)) = xW ∧ Kp (E5 rb base) w xW ∧ Wa.heap.size ≤ xW.heap.size ∧ Kp (fun k => k < base ∨ (w.heap.size ≤ k ∧ k < W7.heap.size)) Wa xW ∧ Blk xW (rb) 57 [.slice p Ls.length cap, .int .i64 (j4 : Nat), .int .i64 (s4.err : Nat), .int .i64 (s4.pos : Nat), .int .i64 (N : Nat)] ∧ Blk xW (w.heap.size) 38 [.string ⟨ln.toArray⟩, .int .i64 (lh : Nat), .slice va (n1 + 1) vc, .slice a2 n2 c2, .slice a3 n3 c3, .slice a4 n4 c4, .slice a5 n5 c5, .int .i64 (lp : Nat)] ∧ Blk xW (w.heap.size + 1) 38 [.string ⟨#[]⟩, .int .i64 0, .slice none 0 0, .slice none 0 0, .slice none 0 0, .slice none 0 0, .slice none 0 0, .int .i64 0] := ⟨_, rfl, (Kp.s1 bWa (Or.inr (by omega))), by simp only [World.setCell, World.size_alloc, Array.size_modify, Nat.le_refl], (Kp.s1 (Kp.refl _ _) (Or.inl (show w.heap.size < base ∨ (w.heap.size ≤ w.heap.size ∧ w.heap.size < W7.heap.size) by omega))), (Blk.o1 k_R (by omega)), (Blk.cast (Blk.set k_l 2 _) rfl), (Blk.o1 k_t (by omega))⟩
        rw [hW10]
        clear hW10 k_R k_l k_t
        have k_R := k2_R
        have k_l := k2_l
        have k_t := k2_t
        clear k2_R k2_l k2_t
        have q_l0 := k_l.cell (i := 0) rfl
        have q_l1 := k_l.cell (i := 1) rfl
        have q_l2 := k_l.cell (i := 2) rfl
        have q_l3 := k_l.cell (i := 3) rfl
        have q_l4 := k_l.cell (i := 4) rfl
        have q_l5 := k_l.cell (i := 5) rfl
        have q_l6 := k_l.cell (i := 6) rfl
        have q_l7 := k_l.cell (i := 7) rfl
        have q_lf := k_l.free
        have q_t0 := k_t.cell (i := 0) rfl
        have q_t1 := k_t.cell (i := 1) rfl
        have q_t2 := k_t.cell (i := 2) rfl
        have q_t3 := k_t.cell (i := 3) rfl
        have q_t4 := k_t.cell (i := 4) rfl
        have q_t5 := k_t.cell (i := 5) rfl
        have q_t6 := k_t.cell (i := 6) rfl
        have q_t7 := k_t.cell (i := 7) rfl
        have q_tf := k_t.free
        go_wp2
        clear q_l0 q_l1 q_l2 q_l3 q_l4 q_l5 q_l6 q_l7 q_lf q_t0 q_t1 q_t2 q_t3 q_t4 q_t5 q_t6 q_t7 q_tf
        obtain ⟨W11, hW11, bW11, sW11, kpW11, k2_R, k2_l, k2_t⟩ : ∃ xW, ((((((((W10.setCell ⟨w.heap.size + 1, 0, none⟩ (.string ⟨ln.toArray⟩)).setCell ⟨w.heap.size + 1, 1, none⟩ (.int .i64 (lh : Nat))).setCell ⟨w.heap.size + 1, 2, none⟩ (.slice va (n1 + 1) vc)).setCell ⟨w.heap.size + 1, 3, none⟩ (.slice a2 n2 c2)).setCell ⟨w.heap.size + 1, 4, none⟩ (.slice a3 n3 c3)).setCell ⟨w.heap.size + 1, 5, none⟩ (.slice a4 n4 c4)).setCell ⟨w.heap.size + 1, 6, none⟩ (.slice a5 n5 c5)).setCell ⟨w.heap.size + 1, 7, none⟩ (.int .i64 (lp : Nat))) = xW ∧ Kp (E5 rb base) w xW ∧ W10.heap.size ≤ xW.heap.size ∧ Kp (fun k => k < base ∨ (w.heap.size ≤ k ∧ k < W7.heap.size)) Wa xW ∧ Blk xW (rb) 57 [.slice p Ls.length cap, .int .i64 (j4 : Nat), .int .i64 (s4.err : Nat), .int .i64 (s4.pos : Nat), .int .i64 (N : Nat)] ∧ Blk xW (w.heap.size) 38 [.string ⟨ln.toArray⟩, .int .i64 (lh : Nat), .slice va (n1 + 1) vc, .slice a2 n2 c2, .slice a3 n3 c3, .slice a4 n4 c4, .slice a5 n5 c5, .int .i64 (lp : Nat)] ∧ Blk xW (w.heap.size + 1) 38 [.string ⟨ln.toArray⟩, .int .i64 (lh : Nat), .slice va (n1 + 1) vc, .slice a2 n2 c2, .slice a3 n3 c3, .slice a4 n4 c4, .slice a5 n5 c5, .int .i64 (lp : Nat)] := ⟨_, rfl, (Kp.s4 (Kp.s4 bW10 (Or.inr (by omega))) (Or.inr (by omega))), by simp only [World.setCell, World.size_alloc, Array.size_modify, Nat.le_refl], (Kp.s4 (Kp.s4 kpW10 (Or.inl (show w.heap.size + 1 < base ∨ (w.heap.size ≤ w.heap.size + 1 ∧ w.heap.size + 1 < W7.heap.size) by omega))) (Or.inl (show w.heap.size + 1 < base ∨ (w.heap.size ≤ w.heap.size + 1 ∧ w.heap.size + 1 < W7.heap.size) by omega))), (Blk.o4 (Blk.o4 k_R (by omega)) (by omega)), (Blk.o4 (Blk.o4 k_l (by omega)) (by omega)), (Blk.cast (Blk.set (Blk.set (Blk.set (Blk.set (Blk.set (Blk.set (Blk.set (Blk.set k_t 0 _) 1 _) 2 _) 3 _) 4 _) 5 _) 6 _) 7 _) rfl)⟩
        rw [hW11]
        clear hW11 k_R k_l k_t
        have k_R := k2_R
        have k_l := k2_l
        have k_t := k2_t
        clear k2_R k2_l k2_t
        exact bodyPost_ret (results_cell_mid rfl _ _ (w.heap.size + 1) _ _ rfl k_t.range Tryz.underlying38 rfl (by kernel_rfl)) rfl ⟨⟨_, _, _, _, _, rfl, (A5.out.kept kpW11 (fun k hk => by rcases hk with h1 | h1 <;> first | exact Or.inl h1 | (right; show ¬ (k < w.heap.size ∨ W7.heap.size ≤ k); omega))).mono (fun _ _ _ => trivial)⟩, ⟨j4, k_R, HI4.out, hi4⟩, bW11⟩
      obtain ⟨g, rfl⟩ : ∃ z, f = z + 1 := ⟨f - 1, by have := HF.out h0; omega⟩
      obtain ⟨⟨y, s14⟩, hq⟩ : ∃ z, rowS N sg = z := ⟨_, rfl⟩
      have hm := HM.out
      rw [one_step h0 NBZ.out hq] at hm
      have HM2 := Lib.hid hm
      clear hm HM
      have HS14 : Hid (SaneS s14) := Lib.hid (one_sane row_m HSG.out hq)
      have HPL : Hid (s14.err = 0 → s14.left.length < sg.left.length) := Lib.hid (one_less eats_row row_m HSG.out h0 hq)
      have HNK : Hid (ml.length + sg.left.length ≤ 5000) := Lib.hid (HLN.out.resolve_right (fun k => k h0))
      have HF2 := Lib.hid (HF.out h0)
      have HQ := Lib.hid hq; have H0 := Lib.hid h0
      clear hq h0 HLN HF
      go_upto_region 7 with fail
      refine wp_region_any (by kernel_rfl) ?_
      refine Foyer.Round.any_of_held (S := fun W => Blk W (W5.heap.size) 41 [.string ⟨nm.toArray⟩, .slice ma ml.length mc, .int .i64 (aa : Nat)] ∧ Kp (onlyB rb) w W) (N := [7]) _ _ _ _ ?_
      change Foyer.Round.held _ _ _ _ _ _ _ _ _ W8.drew
      obtain ⟨W9, hW9⟩ : ∃ x, W8.drew = x := ⟨_, rfl⟩
      have bW9 : Kp (onlyB rb) w W9 := by rw [← hW9]; exact Kp.drew bW8
      have sW9 := sW8
      rw [show W8.heap.size = W9.heap.size from by rw [← hW9]; rfl] at sW9
      replace k_R : Blk W9 (rb) 57 [.slice p Ls.length cap, .int .i64 (ig : Nat), .int .i64 (sg.err : Nat), .int .i64 (sg.pos : Nat), .int .i64 (N : Nat)] := by rw [← hW9]; exact k_R
      replace k_l : Blk W9 (w.heap.size) 38 [.string ⟨ln.toArray⟩, .int .i64 (lh : Nat), .slice a1 n1 c1, .slice a2 n2 c2, .slice a3 n3 c3, .slice a4 n4 c4, .slice a5 n5 c5, .int .i64 (lp : Nat)] := by rw [← hW9]; exact k_l
      replace k_t : Blk W9 (w.heap.size + 1) 38 [.string ⟨#[]⟩, .int .i64 0, .slice none 0 0, .slice none 0 0, .slice none 0 0, .slice none 0 0, .slice none 0 0, .int .i64 0] := by rw [← hW9]; exact k_t
      replace k_b : Blk W9 (W5.heap.size) 41 [.string ⟨nm.toArray⟩, .slice ma ml.length mc, .int .i64 (aa : Nat)] := by rw [← hW9]; exact k_b
      have kpW9 : Kp (fun k => k < W7.heap.size) wr W9 := by rw [← hW9]; exact Kp.drew (kpW8)
      rw [hW9]
      clear hW9 bW8 sW8
      refine Foyer.Round.held_take [1, 5, 7] (i := 0) (v := .pointer (some ⟨W5.heap.size, 1, none⟩)) rfl (by kernel_rfl) (fun _ _ _ h => h) (Or.inl ⟨by rfl, fun w' hS => by go_simp⟩) (⟨k_b, bW9⟩) ?_
      try simp only [Act.put, List.setIfInBounds_toArray, List.set_cons_zero, List.set_cons_succ]
      refine Foyer.Round.held_take [5, 7] (i := 1) (v := .slice ma ml.length mc) rfl (by kernel_rfl) (fun _ _ _ h => h) (Or.inl ⟨by rfl, fun w' hS => by have r_b0 := (show Blk _ _ _ _ from hS.1).cell (i := 0) rfl; have r_b1 := (show Blk _ _ _ _ from hS.1).cell (i := 1) rfl; have r_b2 := (show Blk _ _ _ _ from hS.1).cell (i := 2) rfl; go_simp⟩) (⟨k_b, bW9⟩) ?_
      try simp only [Act.put, List.setIfInBounds_toArray, List.set_cons_zero, List.set_cons_succ]
      refine Foyer.Round.held_take [3, 4, 5, 7] (i := 2) (v := .pointer (some ⟨rb, 0, none⟩)) rfl (by kernel_rfl) (fun _ _ _ h => h) (Or.inl ⟨by rfl, fun w' hS => by go_simp⟩) (⟨k_b, bW9⟩) ?_
      try simp only [Act.put, List.setIfInBounds_toArray, List.set_cons_zero, List.set_cons_succ]
      have hdz : wr.heap.size ≤ W9.heap.size ∧ W7.heap.size ≤ W9.heap.size := ⟨kpW9.size, by omega⟩
      refine Foyer.Round.held_one (i := 3) rfl (by kernel_rfl) (fun K hK => ?_)
      go_simp
      refine (drow_c B N Ls p cap hL rb sg ig HIg.out hig W9 (Below.kp HB.out hrb bW9) hrb k_R HSG.out HQ.out).mono ?_; rintro e W10 ⟨⟨mv, rfl, hmv⟩, ⟨j5, hr, hl_, hi5⟩, hb⟩
      have sW10 := Nat.le_trans sW9 hb.size
      have bW10 := (bW9).trans hb
      replace k_R := hr
      replace k_l := Blk.kept k_l hb (by show ¬ _ = rb; omega)
      replace k_t := Blk.kept k_t hb (by show ¬ _ = rb; omega)
      replace k_b := Blk.kept k_b hb (by show ¬ _ = rb; omega)
      have kpW10 := (kpW9).trans (Kp.mono hb (fun k hk => by have e : k = rb := hk; show k < _; omega))
      clear hb hr bW9 sW9
      have HMV := Lib.hid hmv
      have HI5 := Lib.hid hl_
      clear hmv hl_
      refine hK.out _ _ (fun _ => ⟨k_b, bW10⟩) ?_
      clear hK K
      try simp only [Act.put, List.setIfInBounds_toArray, List.set_cons_zero, List.set_cons_succ]
      obtain ⟨css, hcon, hall⟩ := HMB.out.shift6 kpW10
      have hlt7 : ∀ k, (Value.slice ma ml.length mc).ownBlock = some k → k < W9.heap.size := fun k hk => by have h1 := (HMB.out.lt hk).2; omega
      have hown : ∀ k, (Value.slice ma ml.length mc).ownBlock = some k → W7.heap.size ≤ k ∧ k < W10.heap.size := fun k hk => own_lt hcon.own hk
      obtain ⟨i0, hi0_, hz0, hz1, hz2⟩ := info_parts6 blockC_info
      have hc : rowK.is W10 (fun k => W9.heap.size ≤ k) [.string ⟨y.name.toArray⟩, .int .i64 (y.x : Nat), .int .i64 (y.y : Nat), .int .i64 (y.first : Nat), .int .i64 (y.last : Nat), .int .i64 (y.step : Nat), mv, .int .i64 (y.pos : Nat)] y := ⟨mv, rfl, HMV.out⟩
      have hbz : W7.heap.size ≤ W9.heap.size := hdz.2
      have HJ0 := Lib.hid hi0_; have HZ0 := Lib.hid hz0; have HZ1 := Lib.hid hz1; have HZ2 := Lib.hid hz2; have HCON := Lib.hid hcon; have HALL := Lib.hid hall; have HOW := Lib.hid hown; have HC := Lib.hid hc; have HLT7 := Lib.hid hlt7
      have HXL : Hid (css.length + 1 ≤ 1000000) := Lib.hid (by rw [All2.length HALL.out]; have := HNK.out; omega)
      clear hi0_ hz0 hz1 hz2 hcon hall hown hc hlt7 kpW10 HMB
      refine Foyer.Round.held_one (i := 4) rfl (by kernel_rfl) (fun K hK => ?_)
      go_simp
      refine hK.out _ _ (fun _ => ⟨k_b.alloc _, Kp.alloc bW10 _⟩) ?_
      clear hK K
      try simp only [Act.put, List.setIfInBounds_toArray, List.set_cons_zero, List.set_cons_succ]
      refine Foyer.Round.held_one (i := 5) rfl (by kernel_rfl) (fun K hK => ?_)
      rw [if_pos (by kernel_rfl)]
      refine con_append (t := 39) (T := 44) (m := rowK.size) (B := W7.heap.size) Tryz.underlying39 HJ0.out HZ0.out HZ1.out HZ2.out rfl (by decide) (by decide) (.tmp 37) (.tmp 40) rfl _ css [.string ⟨y.name.toArray⟩, .int .i64 (y.x : Nat), .int .i64 (y.y : Nat), .int .i64 (y.first : Nat), .int .i64 (y.last : Nat), .int .i64 (y.step : Nat), mv, .int .i64 (y.pos : Nat)] rfl (HCON.out.of_block (fun k hk => Below.heap_alloc _ _ _ (HOW.out k hk).2)) W10.heap.size rfl (Blk.new W10 44 [.string ⟨y.name.toArray⟩, .int .i64 (y.x : Nat), .int .i64 (y.y : Nat), .int .i64 (y.first : Nat), .int .i64 (y.last : Nat), .int .i64 (y.step : Nat), mv, .int .i64 (y.pos : Nat)]) (rowK.len HC.out) (rowK.one HC.out) HXL.out (by rw [World.size_alloc]; omega) ?_
      intro v' Wa hcon' hg hat hone
      have BN := Lib.hid (building_snoc6 HALL.out HC.out hbz HLT7.out hcon' hg hat)
      have F_R := Lib.hid (app_facts6 hg (fun k hk => (HOW.out k hk).1) k_R (show rb < W7.heap.size by omega))
      have F_l := Lib.hid (app_facts6 hg (fun k hk => (HOW.out k hk).1) k_l (show w.heap.size < W7.heap.size by omega))
      have F_t := Lib.hid (app_facts6 hg (fun k hk => (HOW.out k hk).1) k_t (show w.heap.size + 1 < W7.heap.size by omega))
      have F_b := Lib.hid (app_facts6 hg (fun k hk => (HOW.out k hk).1) k_b (show W5.heap.size < W7.heap.size by omega))
      have FB := Lib.hid ((Kp.alloc bW10 (.cells ([.string ⟨y.name.toArray⟩, .int .i64 (y.x : Nat), .int .i64 (y.y : Nat), .int .i64 (y.first : Nat), .int .i64 (y.last : Nat), .int .i64 (y.step : Nat), mv, .int .i64 (y.pos : Nat)] : List Value).toArray 44)).grown hg (fun k hk => Or.inr (by have := (HOW.out k hk).1; omega)))
      have FZ : Hid (W10.heap.size + 1 ≤ Wa.heap.size) := Lib.hid (by have := hg.size; rw [World.size_alloc] at this; exact this)
      obtain ⟨va, vc, hv'⟩ := BN.out.len6
      rw [List.length_append, List.length_singleton] at hv'
      subst hv'
      clear hcon' hg hat hone
      refine hK.out _ _ (fun _ => ⟨F_b.out, FB.out⟩) ?_
      clear hK K
      try simp only [Act.put, List.setIfInBounds_toArray, List.set_cons_zero, List.set_cons_succ]
      clear k_R k_l k_t k_b
      have k_R := F_R.out
      have k_l := F_l.out
      have k_t := F_t.out
      have k_b := F_b.out
      have bWa := FB.out
      have sWa : W7.heap.size ≤ Wa.heap.size := Nat.le_trans sW10 (Nat.le_of_succ_le FZ.out)
      clear bW10 sW10 FB FZ HALL HCON HOW HC HLT7 HXL HJ0 HZ0 HZ1 HZ2 HMV F_R F_l F_t F_b
      refine Foyer.Round.held_take [7] (i := 6) (v := .pointer (some ⟨W5.heap.size, 1, none⟩)) rfl (by kernel_rfl) (fun _ _ _ h => h) (Or.inl ⟨by rfl, fun w' hS => by go_simp⟩) (⟨k_b, bWa⟩) ?_
      try simp only [Act.put, List.setIfInBounds_toArray, List.set_cons_zero, List.set_cons_succ]
      have q_b0 := k_b.cell (i := 0) rfl
      have q_b1 := k_b.cell (i := 1) rfl
      have q_b2 := k_b.cell (i := 2) rfl
      have q_bf := k_b.free
      refine Foyer.Round.held_one (i := 7) rfl (by kernel_rfl) (fun K hK => ?_)
      go_simp
      clear q_b0 q_b1 q_b2 q_bf
      obtain ⟨W11, hW11, bW11, sW11, kpW11, k2_R, k2_l, k2_t, k2_b⟩ : ∃ xW, (Wa.setCell ⟨W5.heap.size, 1, none⟩ (.slice va (ml.length + 1) vc)) = xW ∧ Kp (onlyB rb) w xW ∧ Wa.heap.size ≤ xW.heap.size ∧ Kp (fun k => k < W7.heap.size) Wa xW ∧ Blk xW (rb) 57 [.slice p Ls.length cap, .int .i64 (j5 : Nat), .int .i64 (s14.err : Nat), .int .i64 (s14.pos : Nat), .int .i64 (N : Nat)] ∧ Blk xW (w.heap.size) 38 [.string ⟨ln.toArray⟩, .int .i64 (lh : Nat), .slice a1 n1 c1, .slice a2 n2 c2, .slice a3 n3 c3, .slice a4 n4 c4, .slice a5 n5 c5, .int .i64 (lp : Nat)] ∧ Blk xW (w.heap.size + 1) 38 [.string ⟨#[]⟩, .int .i64 0, .slice none 0 0, .slice none 0 0, .slice none 0 0, .slice none 0 0, .slice none 0 0, .int .i64 0] ∧ Blk xW (W5.heap.size) 41 [.string ⟨nm.toArray⟩, .slice va (ml.length + 1) vc, .int .i64 (aa : Nat)] := ⟨_, rfl, (Kp.s1 bWa (Or.inr (by omega))), by simp only [World.setCell, World.size_alloc, Array.size_modify, Nat.le_refl], (Kp.s1 (Kp.refl _ _) (Or.inl (show W5.heap.size < W7.heap.size by omega))), (Blk.o1 k_R (by omega)), (Blk.o1 k_l (by omega)), (Blk.o1 k_t (by omega)), (Blk.cast (Blk.set k_b 1 _) rfl)⟩
      rw [hW11]
      clear hW11 k_R k_l k_t k_b
      have k_R := k2_R
      have k_l := k2_l
      have k_t := k2_t
      have k_b := k2_b
      clear k2_R k2_l k2_t k2_b
      refine hK.out _ _ (fun h => (h (by simp)).elim) ?_
      clear hK K
      try simp only [Act.put, List.setIfInBounds_toArray, List.set_cons_zero, List.set_cons_succ]
      refine Foyer.Round.held_done (by kernel_rfl) ?_ _
      have BN2 := Lib.hid (BN.out.shift6 kpW11)
      clear kpW11 BN
      go_wp2
      refine ⟨⟨ml ++ [y], va, vc, s14, j5, g, HM2, Lib.hid (fun e => by have h1 := HPL.out e; have h2 := HF2.out; omega), HI5, Lib.hid hi5, HS14, Lib.hid ((Decidable.em (s14.err = 0)).elim (fun e => Or.inl (by have h1 := HPL.out e; have h2 := HNK.out; rw [List.length_append, List.length_singleton]; omega)) Or.inr), Lib.hid (by rw [List.length_append, List.length_singleton]; exact BN2.out), Lib.hid k_R, Lib.hid k_l, Lib.hid k_t, Lib.hid (by rw [List.length_append, List.length_singleton]; exact k_b), Lib.hid bW11, Lib.hid (by omega)⟩, ?_⟩
      rw [left6_of k_R, HLEFT.out, if_pos H0.out]
      have d1 := drop_len HIg.out hig
      have d2 := drop_len HI5.out hi5
      split
      · rename_i he
        have := HPL.out he
        omega
      · omega
end Go.Proofs.YtlfjdohjfmfcdaaGreatDoor
