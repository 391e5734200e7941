/-
  The walk of the iterator of tokens.
-/
import Derived.Test.YtlfjdohjfmfcdaaGreatDoorWalkTok
import Derived.Test.YtlfjdohjfmfcdaaGreatDoorWalkGap
import Derived.LoopIn
import Derived.Test.YtlfjdohjfmfcdaaGreatDoorWalkClasses
import Derived.Test.YtlfjdohjfmfcdaaGreatDoorMathLex
import Derived.Test.YtlfjdohjfmfcdaaGreatDoorKept
import Derived.Test.YtlfjdohjfmfcdaaGreatDoorSource
namespace Go.Proofs.YtlfjdohjfmfcdaaGreatDoor
open Go.RowKit Foyer.Lexer Foyer.Kept Foyer.Round
attribute [local go_sem] Oper.semAt_some

/-- A token as a value, and with its error. -/
def tokV (t : Tok) : Value := .agg #[.int .i64 (t.kind : Nat), .string ⟨t.text.toArray⟩, .int .i64 (t.val : Nat), .int .i64 (t.pos : Nat)]
def encT (x : Tok × Nat) : Array Value := #[tokV x.1, .int .i64 (x.2 : Nat)]
/-- What comes out of a text: its tokens, and its error with a token that has nothing but the offset. -/
def outs (ts : List Tok) (e : Option (Nat × Nat)) : List (Tok × Nat) := ts.map (fun t => (t, 0)) ++ match e with | none => [] | some (d, p) => [(⟨0, [], 0, p⟩, d)]
theorem lx_skip {a : Nat} {l : List UInt8} {ts : List Tok} {e : Option (Nat × Nat)} (h : Lx a l ts e) : Lx (a + gapL false l) (l.drop (gapL false l)) ts e := by
  cases h with
  | nil _ _ h => rw [gapL_all l false h, List.drop_length]; exact Lx.nil _ _ rfl
  | bad _ g c r e h hc hb =>
    rw [gapL_closed g false c r h hc, List.drop_left]
    exact Lx.bad (a + g.length) [] c r e rfl hc hb
  | good _ g T rest k v ts e h hT hr =>
    obtain ⟨c, r, rfl, hc⟩ := isTok_head hT
    rw [List.cons_append, gapL_closed g false c (r ++ rest) h hc, List.drop_left]
    exact Lx.good (a + g.length) [] (c :: r) rest k v ts e rfl hT hr
theorem gap_skip (l : List UInt8) : gapL false (l.drop (gapL false l)) = 0 := by
  rcases gap_parts (l := l) with ⟨h, _⟩ | ⟨c, r, h, _, hc, _⟩
  · rw [h]; rfl
  · rw [h]; unfold gapL; rw [hc.1, hc.2]; rfl
theorem nonGap_of {c : UInt8} {r : List UInt8} (h : gapL false (c :: r) = 0) : nonGap c := by
  unfold gapL at h
  constructor
  · cases hb : isBlank c
    · rfl
    · rw [hb] at h; simp at h
  · cases hb : isBlank c
    · cases hh : isHash c
      · rfl
      · rw [hb, hh] at h; simp at h
    · rw [hb] at h; simp at h
theorem lx_head {a : Nat} {c : UInt8} {r : List UInt8} {ts : List Tok} {e : Option (Nat × Nat)} (h : Lx a (c :: r) ts e) (hc : nonGap c) :
    (∃ d, tok (c :: r) = .bad d ∧ ts = [] ∧ e = some (d, a)) ∨ (∃ k m v us, tok (c :: r) = .good k m v ∧ ts = ⟨k, (c :: r).take m, v, a⟩ :: us ∧ Lx (a + m) ((c :: r).drop m) us e ∧ 1 ≤ m ∧ m ≤ (c :: r).length) := by
  cases hk : tok (c :: r) with
  | bad d =>
    obtain ⟨h1, h2⟩ := lx_det h (Lx.bad a [] c r d rfl hc hk)
    exact Or.inl ⟨d, rfl, h1, h2⟩
  | good k m v =>
    obtain ⟨hm, hT⟩ := tok_good hk
    have hlen : ((c :: r).take m).length = m := by rw [List.length_take]; omega
    obtain ⟨us, e2, h2⟩ := lx_some (a + m) ((c :: r).drop m)
    have h3 := Lx.good a [] ((c :: r).take m) ((c :: r).drop m) k v us e2 rfl hT (by rw [List.length_nil, Nat.add_zero, hlen]; exact h2)
    rw [List.nil_append, List.take_append_drop] at h3
    obtain ⟨h4, h5⟩ := lx_det h h3
    subst h5
    have := isTok_pos hT
    exact Or.inr ⟨k, m, v, us, rfl, h4, h2, by omega, hm⟩

/-- What the iterator keeps: the source, the text's own box, and the token of the round. -/
def Keeps (tb : Nat) (t : ByteArray) (b c : Nat) (x : Tok × Nat) (W : World) : Prop := Src W b t ∧ W.cell? ⟨tb, 0, none⟩ = some (.string t) ∧ W.cell? ⟨c, 1, none⟩ = some (.string ⟨x.1.text.toArray⟩)
theorem gapEnd_below (t : ByteArray) (ht : t.size ≤ 1000000) (b k : Nat) (hk : k ≤ t.size) (w : World) (hs : Src w b t) :
    Calls Tryz.prog 31 #[.pointer (some ⟨b, 0, none⟩), .int .i64 k] w fun e w' => e = .returned (.int .i64 (k + gapL false (t.data.toList.drop k) : Nat)) ∧ Below w.heap.size w w' :=
  (gapEnd_any t ht b k hk w hs).mono fun _ _ ⟨he, n, hw⟩ => ⟨he, by rw [hw]; exact below_drewN (Below.refl _ _) n⟩
theorem gapEnd_zero (t : ByteArray) (ht : t.size ≤ 1000000) (b : Nat) (w : World) (hs : Src w b t) :
    Calls Tryz.prog 31 #[.pointer (some ⟨b, 0, none⟩), .int .i64 0] w fun e w' => e = .returned (.int .i64 (gapL false t.data.toList : Nat)) ∧ Below w.heap.size w w' := by
  have := gapEnd_below t ht b 0 (Nat.zero_le _) w hs
  rw [List.drop_zero, Nat.zero_add] at this
  exact this

set_option linter.unusedSimpArgs false in
set_option maxRecDepth 100000 in
set_option maxHeartbeats 1000000 in
theorem each_kept (t : ByteArray) (ht : t.size ≤ 1000000) (tb : Nat) (w : World) (hb : w.cell? ⟨tb, 0, none⟩ = some (.string t)) (ts : List Tok) (er : Option (Nat × Nat)) (hlx : Lx 0 t.data.toList ts er) :
    SeqKept 2 Tryz.prog 29 #[.pointer (some ⟨tb, 0, none⟩)] encT (Keeps tb t) (outs ts er) w := fun y J Jx W hW hJ hJx hY h0 => by
  have hcb := (hW.cell (p := ⟨tb, 0, none⟩) (lt_of_cell hb)).trans hb
  have HY := Lib.hid hY; have H0 := Lib.hid h0
  have HJ : Hid (∀ L H pre (W1 W2 : World), J L H pre W1 → Below W1.heap.size W1 W2 → J L H pre W2) := fun L H pre W1 W2 hj hbb => hJ L H pre W1 W2 none hj (grown_of_below hbb) (fun r e => by cases e)
  have HJX : Hid (∀ (W1 W2 : World), Jx W1 → Below W1.heap.size W1 W2 → Jx W2) := fun W1 W2 hj hbb => hJx () W1 W2 none hj (grown_of_below hbb) (fun r e => by cases e)
  clear hY h0 hJ hJx hW hb
  refine callsIn_of_wp Tryz.func29 rfl trivial ?_ rfl
  simp only [Tryz.ntmps29, List.size_toArray, List.length_cons, List.length_nil, Nat.reduceAdd, Nat.reduceSub, Array.replicate_succ, Array.replicate_zero, List.push_toArray, List.append_toArray, List.nil_append, List.cons_append]
  gi_wp2_with fail
  refine wpIn_mono (Q := fun e a' w' => e = .normal ∧ ∃ b v8 v9, W.heap.size ≤ b ∧ b < w'.heap.size ∧ a' = { tmps := #[.func (.yield y) #[] #[], .pointer (some ⟨tb, 0, none⟩), undef, .pointer (some ⟨b, 0, none⟩), undef, undef, undef, .string t, v8, v9, undef, undef, undef, undef, undef, undef, undef, undef, undef, undef, undef, undef, undef, undef, undef, undef, undef, undef, undef, undef, undef, undef, undef, undef, undef, undef], defers := [] } ∧ Src w' b t ∧ Below W.heap.size W w') (wpIn_wide.2 ?region) ?rest
  case region =>
    clear HY H0 HJ HJX hlx
    obtain ⟨cs, src, hcl, hbd, hlen, hone, hst⟩ := source_facts t
    have HCL := Lib.hid hcl; have HBD := Lib.hid hbd; have HLEN := Lib.hid hlen; have HONE := Lib.hid hone; have HST := Lib.hid hst
    clear hcl hbd hlen hone hst
    refine wp_region_any (by kernel_rfl) ?_
    have hS0 : Below W.drew.heap.size W.drew W.drew := Below.refl _ _
    have hW0 : Below W.heap.size W W.drew := below_drewN (Below.refl _ _) 1
    refine any_of_held (S := fun w' => Below W.drew.heap.size W.drew w') (N := []) _ _ _ _ ?_
    refine held_take [2, 4] (i := 0) (v := .string t) rfl (by kernel_rfl) (fun _ _ _ h => by cases h.1) (Or.inl ⟨by rfl, fun w' hS => by have hc := (hS.cell (p := ⟨tb, 0, none⟩) (lt_of_cell hcb)).trans hcb; go_simp⟩) hS0 ?_
    try simp only [Act.put, List.setIfInBounds_toArray, List.set_cons_zero, List.set_cons_succ]
    obtain ⟨wa, hwa⟩ : ∃ wa, W.drew = wa := ⟨_, rfl⟩
    rw [hwa] at hS0 hW0 ⊢
    refine held_two (i := 1) (j := 3) rfl rfl (by kernel_rfl) (fun K hK => ?_) (fun K hK => ?_)
    · go_simp
      refine (HCL.out wa).mono ?_; rintro e wb ⟨rfl, hbb⟩
      refine hK.out _ _ (fun _ => hbb) ?_
      clear hK K
      try simp only [Act.put, List.setIfInBounds_toArray, List.set_cons_zero, List.set_cons_succ]
      refine held_take [4] (i := 2) (v := .agg src.toArray) rfl (by kernel_rfl) (fun _ _ _ h => by cases h.1) (Or.inl ⟨by rfl, fun w' _ => yields_build _ _ rfl _ (by go_simp; exact HBD.out) w'⟩) hbb ?_
      try simp only [Act.put, List.setIfInBounds_toArray, List.set_cons_zero, List.set_cons_succ]
      refine held_one (i := 3) rfl (by kernel_rfl) (fun K hK => ?_)
      go_simp
      have hSc := hbb.alloc hbb.size (.cells Tryz.zeroCells87 87)
      have hth := there_new wb
      refine hK.out _ _ (fun _ => hSc) ?_
      clear hK K
      try simp only [Act.put, List.setIfInBounds_toArray, List.set_cons_zero, List.set_cons_succ]
      refine held_one (i := 4) rfl (by kernel_rfl) (fun K hK => ?_)
      rw [if_pos (by rfl)]
      refine wp_store_mid 87 _ _ rfl wb.heap.size 0 src.toArray rfl rfl (by rw [HLEN.out]; exact hth) (by rw [HLEN.out]; exact info_src) HONE.out ?_
      have hS5 := below_setCells (a := wa) (B := wa.heap.size) (b := wb.heap.size) hbb.size src 0 _ hSc
      refine hK.out _ _ (fun _ => hS5) ?_
      clear hK K
      refine held_done (by kernel_rfl) ?_ _
      have hsz := hW0.size
      have hlt := lt_of_cell (HST.out _ _ hth).text
      exact ⟨rfl, wb.heap.size, _, _, Nat.le_trans hsz hbb.size, hlt, rfl, HST.out _ _ hth, hW0.trans (hS5.mono hsz)⟩
    · go_simp
      have hth := there_new wa
      have hSb : Below wa.heap.size wa (wa.alloc (.cells Tryz.zeroCells87 87)) := hS0.alloc (Nat.le_refl _) _
      refine hK.out _ _ (fun _ => hSb) ?_
      clear hK K
      try simp only [Act.put, List.setIfInBounds_toArray, List.set_cons_zero, List.set_cons_succ]
      have hltb : wa.heap.size < (wa.alloc (.cells Tryz.zeroCells87 87)).heap.size := by simp
      generalize wa.alloc (.cells Tryz.zeroCells87 87) = wb at *
      refine held_one (i := 1) rfl (by kernel_rfl) (fun K hK => ?_)
      go_simp
      refine (HCL.out wb).mono ?_; rintro e wc ⟨rfl, hbc⟩
      have hSc : Below wa.heap.size wa wc := hSb.trans (hbc.mono hSb.size)
      have hth2 := there_below hth hltb hbc
      refine hK.out _ _ (fun _ => hSc) ?_
      clear hK K
      try simp only [Act.put, List.setIfInBounds_toArray, List.set_cons_zero, List.set_cons_succ]
      refine held_take [4] (i := 2) (v := .agg src.toArray) rfl (by kernel_rfl) (fun _ _ _ h => by cases h.1) (Or.inl ⟨by rfl, fun w' _ => yields_build _ _ rfl _ (by go_simp; exact HBD.out) w'⟩) hSc ?_
      try simp only [Act.put, List.setIfInBounds_toArray, List.set_cons_zero, List.set_cons_succ]
      refine held_one (i := 4) rfl (by kernel_rfl) (fun K hK => ?_)
      rw [if_pos (by rfl)]
      refine wp_store_mid 87 _ _ rfl wa.heap.size 0 src.toArray rfl rfl (by rw [HLEN.out]; exact hth2) (by rw [HLEN.out]; exact info_src) HONE.out ?_
      have hS5 := below_setCells (a := wa) (B := wa.heap.size) (b := wa.heap.size) (by have := hSc.size; omega) src 0 _ hSc
      refine hK.out _ _ (fun _ => hS5) ?_
      clear hK K
      refine held_done (by kernel_rfl) ?_ _
      have hsz := hW0.size
      have hlt := lt_of_cell (HST.out _ _ hth2).text
      exact ⟨rfl, wa.heap.size, _, _, by have := hSc.size; omega, hlt, rfl, HST.out _ _ hth2, hW0.trans (hS5.mono hsz)⟩
  case rest =>
    rintro e a' w1 ⟨rfl, b, v8, v9, hb1, hb2, rfl, hsrc, hbw⟩
    have hcb1 := (hbw.cell (p := ⟨tb, 0, none⟩) (lt_of_cell hcb)).trans hcb
    obtain ⟨L, hL⟩ : ∃ L, w1.heap.size = L := ⟨_, rfl⟩
    rw [hL] at hb2
    have hWL : W.heap.size ≤ L := by rw [← hL]; exact hbw.size
    have hJ1 : Hid (J L L [] w1) := HJ.out _ _ _ _ _ (H0.out L L hWL (Nat.le_refl _)) hbw
    have HSRC1 := Lib.hid hsrc; have HLX := Lib.hid hlx
    have htbW : tb < W.heap.size := lt_of_cell hcb
    clear H0 hsrc hlx
    gi_wp2_with (refine ⟨trivial, ?_⟩; gi_at_call 31; refine (callsIn_wide.2 (gapEnd_zero t ht b _ HSRC1.out)).mono ?_; rintro e w2 ⟨rfl, hb12⟩)
    have hcb2 := (hb12.cell (p := ⟨tb, 0, none⟩) (lt_of_cell hcb1)).trans hcb1
    have HSRC2 := Lib.hid (HSRC1.out.since hb12)
    have hJ2 := Lib.hid (HJ.out _ _ _ _ _ hJ1.out hb12)
    have hL2 : L ≤ w2.heap.size := by rw [← hL]; exact hb12.size
    have hgle : gapL false t.data.toList ≤ t.size := by have := gapL_le t.data.toList false; simpa using this
    have HLX2 : Hid (Lx (gapL false t.data.toList) (t.data.toList.drop (gapL false t.data.toList)) ts er) := by have := lx_skip HLX.out; rw [Nat.zero_add] at this; exact this
    have HGS : Hid (gapL false (t.data.toList.drop (gapL false t.data.toList)) = 0) := gap_skip _
    obtain ⟨g0, hg0⟩ : ∃ g0, gapL false t.data.toList = g0 := ⟨_, rfl⟩
    rw [hg0] at hgle HLX2 HGS ⊢
    clear hb12 hcb1 HSRC1 hJ1 HLX hg0 hL hbw hcb
    gi_loopw [4] (fun i wr => ∃ (k H : Nat) (pre : List (Tok × Nat)) (us : List Tok), i = .int .i64 k ∧ k ≤ t.size ∧ Hid (Lx k (t.data.toList.drop k) us er) ∧ Hid (gapL false (t.data.toList.drop k) = 0) ∧ Hid (outs ts er = pre ++ outs us er) ∧ L ≤ H ∧ H ≤ wr.heap.size ∧ Hid (J L H pre wr) ∧ Hid (Src wr b t) ∧ wr.cell? ⟨tb, 0, none⟩ = some (.string t)) (fun i _ => t.size - (intOf i).toNat)
    case atStart => exact ⟨g0, L, [], ts, rfl, hgle, HLX2, HGS, Lib.hid rfl, Nat.le_refl _, hL2, hJ2, HSRC2, hcb2⟩
    case round =>
      clear HLX2 HGS HSRC2 hJ2 hcb2 hgle hL2
      obtain ⟨k, H, pre, us, rfl, hk, HLX, HGS, HO, hLH, hHr, HJJ, HSRC, hbox⟩ := hrel
      by_cases hlt : k < t.size
      · have hdr := drop_byte t k hlt
        have hng : nonGap t[k] := nonGap_of (r := t.data.toList.drop (k + 1)) (by rw [← hdr]; exact HGS.out)
        have hcs := lx_head (a := k) (c := t[k]) (r := t.data.toList.drop (k + 1)) (ts := us) (e := er) (by rw [← hdr]; exact HLX.out) hng
        rw [← hdr] at hcs
        have hyield := fun (x : Tok × Nat) (post : List (Tok × Nat)) (hit : outs ts er = pre ++ x :: post) (w3 : World) (hb3 : Below wr.heap.size wr w3) (c0 c2 c3 : Value) =>
          HY.out b L w3.heap.size H pre x post (w3.alloc (.cells #[c0, .string ⟨x.1.text.toArray⟩, c2, c3] 67)) hit (HJ.out _ _ _ _ _ HJJ.out ((hb3.alloc hb3.size _))) hb1 hb2 hLH (Nat.le_trans hHr hb3.size) (by simp)
            ⟨HSRC.out.since (hb3.alloc hb3.size _), ((hb3.alloc hb3.size _).cell (p := ⟨tb, 0, none⟩) (lt_of_cell hbox)).trans hbox, by simp⟩
        have htok := fun w' (h : Src w' b t) => tokenAt_any t ht b k hlt w' h
        rcases hcs with ⟨d, hk1, rfl, rfl⟩ | ⟨kd, m, v, us', hk1, rfl, hlx', hm1, hm2⟩
        · rw [hk1, gotV_bad] at htok
          have hy2 : ∀ w3, Below wr.heap.size wr w3 → YieldAt Fence.wide (2 - 1) Tryz.prog y #[.agg #[.int .i64 0, .string ⟨#[]⟩, .int .i64 0, .int .i64 k], .int .i64 d] (w3.alloc (.cells #[.int .i64 0, .string ⟨#[]⟩, .int .i64 0, .int .i64 k] 67)) fun e W' =>
              (e = .returned (.bool true) ∧ (∃ H', L ≤ H' ∧ H' ≤ W'.heap.size ∧ J L H' (pre ++ [(⟨0, [], 0, k⟩, d)]) W') ∧ Keeps tb t b w3.heap.size (⟨0, [], 0, k⟩, d) W') ∨ (e = .returned (.bool false) ∧ Jx W') :=
            fun w3 hb3 => hyield (⟨0, [], 0, k⟩, d) [] HO.out w3 hb3 (.int .i64 0) (.int .i64 0) (.int .i64 k)
          clear hyield hdr hng hk1
          have hd3 := (lx_err HLX.out d k rfl).1
          have HYY := Lib.hid hy2; have HTK := Lib.hid htok
          clear hy2 htok
          have hdk : decide ((k : Int) < (t.size : Int)) = true := by simp; omega
          have hdn : ((d : Int) != 0) = true := by rcases hd3 with rfl | rfl | rfl <;> rfl
          gi_wp2_with (refine ⟨trivial, ?_⟩; gi_at_call 32; refine (callsIn_wide.2 (HTK.out _ HSRC.out)).mono ?_; rintro e w3 ⟨rfl, hb3⟩; obtain ⟨fn, tm, asg, bd, hy, hR⟩ := HYY.out _ hb3; have HR := Lib.hid hR; clear hR)
          refine HR.out.mono ?_
          rintro e W3 (⟨rfl, ⟨H', hH1, hH2, hJ'⟩, hS', hbx', _⟩ | ⟨rfl, hx⟩)
          · have HJ' := Lib.hid hJ'
            clear hJ' hy HR
            gi_wp2
            refine bodyPost_ret (results_none rfl _ _ _) rfl ?_
            exact ⟨⟨_, rfl⟩, Or.inl ⟨L, H', by rw [HO.out]; exact HJ'.out⟩⟩
          · have HX := Lib.hid hx
            clear hx hy HR
            gi_wp2
            refine bodyPost_ret (results_none rfl _ _ _) rfl ?_
            exact ⟨⟨_, rfl⟩, Or.inr HX.out⟩
        · obtain ⟨T, hT⟩ : ∃ T, (t.data.toList.drop k).take m = T := ⟨_, rfl⟩
          obtain ⟨s, hs⟩ : ∃ s : ByteArray, (⟨T.toArray⟩ : ByteArray) = s := ⟨_, rfl⟩
          have hsm : s.size = m := by
            rw [← hs, ← hT, size_of_list, List.length_take]; omega
          have hkm : k + m ≤ t.size := by
            rw [List.length_drop, Array.length_toList] at hm2
            have : t.data.size = t.size := rfl
            omega
          rw [hk1, gotV_good, hT, hs] at htok
          rw [hT] at HO
          have hy2 : ∀ w3, Below wr.heap.size wr w3 → YieldAt Fence.wide (2 - 1) Tryz.prog y #[.agg #[.int .i64 kd, .string s, .int .i64 v, .int .i64 k], .int .i64 0] (w3.alloc (.cells #[.int .i64 kd, .string s, .int .i64 v, .int .i64 k] 67)) fun e W' =>
              (e = .returned (.bool true) ∧ (∃ H', L ≤ H' ∧ H' ≤ W'.heap.size ∧ J L H' (pre ++ [(⟨kd, T, v, k⟩, 0)]) W') ∧ Src W' b t ∧ W'.cell? ⟨tb, 0, none⟩ = some (.string t) ∧ W'.cell? ⟨w3.heap.size, 1, none⟩ = some (.string s)) ∨ (e = .returned (.bool false) ∧ Jx W') := by
            intro w3 hb3
            have := hyield (⟨kd, T, v, k⟩, 0) (outs us' er) HO.out w3 hb3 (.int .i64 kd) (.int .i64 v) (.int .i64 k)
            dsimp only [encT, tokV, Keeps] at this
            rw [hs] at this
            exact this
          clear hyield hdr hng hk1 hs
          rw [List.drop_drop] at hlx'
          have HYY := Lib.hid hy2; have HTK := Lib.hid htok; have HLX' := Lib.hid hlx'; have HTT := Lib.hid hT
          clear hy2 htok hlx' hT hm2
          have hdk : decide ((k : Int) < (t.size : Int)) = true := by simp; omega
          gi_wp2_with (refine ⟨trivial, ?_⟩; gi_at_call 32; refine (callsIn_wide.2 (HTK.out _ HSRC.out)).mono ?_; rintro e w3 ⟨rfl, hb3⟩; obtain ⟨fn, tm, asg, bd, hy, hR⟩ := HYY.out _ hb3; have HR := Lib.hid hR; clear hR)
          refine HR.out.mono ?_
          rintro e W3 (⟨rfl, ⟨H', hH1, hH2, hJ'⟩, hS', hbx', hct⟩ | ⟨rfl, hx⟩)
          · have HJ' := Lib.hid hJ'; have HS' := Lib.hid hS'
            clear hJ' hS' hy HR
            gi_wp2_with (refine ⟨trivial, ?_⟩; gi_at_call 31; refine (callsIn_wide.2 (gapEnd_below t ht b (k + m) hkm _ HS'.out)).mono ?_; rintro e w5 ⟨rfl, hb5⟩)
            have hb5' := hb5
            have hcell5 := (hb5.cell (p := ⟨tb, 0, none⟩) (lt_of_cell hbx')).trans hbx'
            have hgl : gapL false (t.data.toList.drop (k + m)) ≤ t.size - (k + m) := by
              have h1 := gapL_le (t.data.toList.drop (k + m)) false
              rw [List.length_drop, Array.length_toList] at h1
              exact h1
            refine ⟨⟨k + m + gapL false (t.data.toList.drop (k + m)), H', pre ++ [(⟨kd, T, v, k⟩, 0)], us', congrArg (Value.int .i64) (by omega), by omega, Lib.hid ?_, Lib.hid ?_, Lib.hid ?_, hH1, Nat.le_trans hH2 hb5'.size, Lib.hid (HJ.out _ _ _ _ _ HJ'.out hb5'), Lib.hid (HS'.out.since hb5'), hcell5⟩, ?_⟩
            · have := lx_skip HLX'.out
              rwa [List.drop_drop] at this
            · have := gap_skip (t.data.toList.drop (k + m))
              rwa [List.drop_drop] at this
            · rw [HO.out, List.append_assoc]; rfl
            · simp [intOf]; omega
          · have HX := Lib.hid hx
            clear hx hy HR
            gi_wp2
            refine bodyPost_ret (results_none rfl _ _ _) rfl ?_
            exact ⟨⟨_, rfl⟩, Or.inr HX.out⟩
      · have hus := HLX.out
        rw [drop_end t k (by omega)] at hus
        obtain ⟨rfl, rfl⟩ := lx_det hus (Lx.nil k [] rfl)
        have hdk : decide ((k : Int) < (t.size : Int)) = false := by simp; omega
        gi_wp2
        go_end0
        exact ⟨⟨_, rfl⟩, Or.inl ⟨L, H, by rw [HO.out]; simpa [outs] using HJJ.out⟩⟩
end Go.Proofs.YtlfjdohjfmfcdaaGreatDoor
