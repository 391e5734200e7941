/-
  The walk of a rule.
-/
import Derived.Test.YtlfjdohjfmfcdabDoorWalkHeads
namespace Go.Proofs.YtlfjdohjfmfcdabDoor
open Go.RowKit Go.Sort Go.Shelf Foyer.Rule Foyer.Round
section
variable {P : Program} {ops : Array Oper} {md : Region.Mode} {Q : Exit → Act → World → Prop} {S : World → Prop} {N : List Nat}
/-- Two operations may come up. -/
theorem held_two {i j : Nat} {o o' : Oper} {f : Nat} {listed : Array Bool} {a : Act} {w : World} (hi : ops[i]? = some o) (hj : ops[j]? = some o') (hr : Region.ready md ops listed = [i, j])
    (h : ∀ K' : Act → World → Prop, RowKit.Hid (∀ a' w', (i ∉ N → S w') → held P md ops Q S N f (listed.setIfInBounds i true) a' w' → K' a' w') → if Region.wanted o (yielded ops a.tmps) = true then Oper.wp P o a w K' Q else K' (a.put o.dst undef) w)
    (h' : ∀ K' : Act → World → Prop, RowKit.Hid (∀ a' w', (j ∉ N → S w') → held P md ops Q S N f (listed.setIfInBounds j true) a' w' → K' a' w') → if Region.wanted o' (yielded ops a.tmps) = true then Oper.wp P o' a w K' Q else K' (a.put o'.dst undef) w) : held P md ops Q S N (f + 1) listed a w := by
  refine ⟨fun h0 => (by rw [hr] at h0; cases h0), fun k hk => ?_⟩
  rw [hr] at hk
  simp only [List.mem_cons, List.not_mem_nil, or_false] at hk
  rcases hk with rfl | rfl
  · exact wpOp_step hi fun K' hK => h K' (Lib.hid fun a' w' h1 h2 => hK a' w' ⟨h1, h2⟩)
  · exact wpOp_step hj fun K' hK => h' K' (Lib.hid fun a' w' h1 h2 => hK a' w' ⟨h1, h2⟩)
end
theorem store_func (w : World) (a : Addr) (fn : Fn) (f c : Array Value) (m : Mode) : (store a (.func fn f c) m).run Tryd.prog w = stored Tryd.prog w a (.func fn f c) m := run_store Tryd.prog w a _ m rfl
set_option linter.unusedSimpArgs false in
set_option maxRecDepth 100000 in
set_option maxHeartbeats 8000000 in
theorem item_any (bp L : Nat) (ts : List TokP) (w : World) (h : At w bp L ts) : Calls Tryd.prog 32 #[.pointer (some ⟨bp, 0, none⟩)] w (Gives bp L (onlyB bp) w (itemP ts) (KindV itemK w.heap.size)) := by
  have hlt := h.lt
  have hmf := makes_func
  have hst := store_func
  have P0 := (Blk.new w 58 [.pointer (some ⟨bp, 0, none⟩)]).alloc (.cells #[.int .i64 0, .string ⟨#[]⟩, .slice none 0 0, .int .i64 0, .int .i64 0, .int .i64 0, .int .i64 0, .int .i64 0, .int .i64 0] 38)
  have R0 := Blk.new (w.alloc (.cells #[.pointer (some ⟨bp, 0, none⟩)] 58)) 38 [.int .i64 0, .string ⟨#[]⟩, .slice none 0 0, .int .i64 0, .int .i64 0, .int .i64 0, .int .i64 0, .int .i64 0, .int .i64 0]
  rw [show (w.alloc (.cells #[.pointer (some ⟨bp, 0, none⟩)] 58)).heap.size = w.heap.size + 1 by simp] at R0
  have K0 : Kp (onlyB bp) w ((w.alloc (.cells #[.pointer (some ⟨bp, 0, none⟩)] 58)).alloc (.cells #[.int .i64 0, .string ⟨#[]⟩, .slice none 0 0, .int .i64 0, .int .i64 0, .int .i64 0, .int .i64 0, .int .i64 0, .int .i64 0] 38)) := ((Kp.refl _ _).alloc _).alloc _
  have A0 := h.kept (E := fun _ => False) (((Kp.refl _ w).alloc (.cells #[.pointer (some ⟨bp, 0, none⟩)] 58)).alloc (.cells #[.int .i64 0, .string ⟨#[]⟩, .slice none 0 0, .int .i64 0, .int .i64 0, .int .i64 0, .int .i64 0, .int .i64 0, .int .i64 0] 38)) (fun _ h => h.elim)
  have hs0 : w.heap.size + 2 ≤ ((w.alloc (.cells #[.pointer (some ⟨bp, 0, none⟩)] 58)).alloc (.cells #[.int .i64 0, .string ⟨#[]⟩, .slice none 0 0, .int .i64 0, .int .i64 0, .int .i64 0, .int .i64 0, .int .i64 0, .int .i64 0] 38)).heap.size := by simp
  clear h
  go_enter Tryd.func32, Tryd.ntmps32
  go_upto_region 1 with fail
  generalize (w.alloc (.cells #[.pointer (some ⟨bp, 0, none⟩)] 58)).alloc (.cells #[.int .i64 0, .string ⟨#[]⟩, .slice none 0 0, .int .i64 0, .int .i64 0, .int .i64 0, .int .i64 0, .int .i64 0, .int .i64 0] 38) = W0 at *
  have P0 := Lib.hid P0; have R0 := Lib.hid R0; have K0 := Lib.hid K0; have A0 := Lib.hid A0
  have cP0 := P0.out.cell (i := 0) rfl
  go_wp2_with fail
  refine (heads_any bp W0).mono ?_
  rintro e w1 ⟨rfl, rfl⟩
  go_upto_region 2 with fail
  have P1 := (P0.out.alloc (.map (entriesOf 0 (headsL bp)).toArray 7)).alloc (.cells #[.map (some W0.heap.size)] 94)
  have R1 := (R0.out.alloc (.map (entriesOf 0 (headsL bp)).toArray 7)).alloc (.cells #[.map (some W0.heap.size)] 94)
  have D1 := Blk.new (W0.alloc (.map (entriesOf 0 (headsL bp)).toArray 7)) 94 [.map (some W0.heap.size)]
  rw [show (W0.alloc (.map (entriesOf 0 (headsL bp)).toArray 7)).heap.size = W0.heap.size + 1 by simp] at D1
  have M1 : MapB ((W0.alloc (.map (entriesOf 0 (headsL bp)).toArray 7)).alloc (.cells #[.map (some W0.heap.size)] 94)) W0.heap.size (headsL bp) 7 := by
    have : MapB (W0.alloc (.map (entriesOf 0 (headsL bp)).toArray 7)) W0.heap.size (headsL bp) 7 := (MapKept.heap_alloc W0 _).1
    exact this.kept (E := fun _ => False) ((Kp.refl _ _).alloc _) (fun h => h)
  have K1 := (K0.out.alloc (.map (entriesOf 0 (headsL bp)).toArray 7)).alloc (.cells #[.map (some W0.heap.size)] 94)
  have A1 := A0.out.kept (E := fun _ => False) (((Kp.refl _ W0).alloc (.map (entriesOf 0 (headsL bp)).toArray 7)).alloc (.cells #[.map (some W0.heap.size)] 94)) (fun _ h => h.elim)
  have hs1 : W0.heap.size + 2 ≤ ((W0.alloc (.map (entriesOf 0 (headsL bp)).toArray 7)).alloc (.cells #[.map (some W0.heap.size)] 94)).heap.size := by simp
  clear P0 R0 K0 A0 cP0
  generalize (W0.alloc (.map (entriesOf 0 (headsL bp)).toArray 7)).alloc (.cells #[.map (some W0.heap.size)] 94) = W1 at *
  generalize W0.heap.size = mb at *
  have P1 := Lib.hid P1; have R1 := Lib.hid R1; have K1 := Lib.hid K1; have A1 := Lib.hid A1; have D1 := Lib.hid D1; have M1 := Lib.hid M1
  have cP0 := P1.out.cell (i := 0) rfl
  go_wp2_with fail
  refine (take_any bp L ts 47 itemT_ent #[.pointer (some ⟨mb + 1, 0, none⟩)] (fun t => decide (headKind t.text ≠ 0)) _ A1.out (itemT_asks (mb + 1) mb 7 bp _ _ D1.out M1.out (fun h => h) (fun h => h))).mono ?_
  rintro e W2 (⟨t, r2, h2, rfl, a2, k2⟩ | ⟨c2, r2, h2, rfl, k2⟩)
  rotate_left
  · have KK := Lib.hid (K1.out.callB k2 (rfl)); have HB := Lib.hid h2
    clear h2 k2
    unfold failP
    go_wp2
    refine ⟨rfl, gives_bad _ _ ?_ KK.out⟩
    exact (then_bad (then_bad HB.out) : itemP ts = _)
  have P2 := Lib.hid (P1.out.kept k2 (fun h => by have : w.heap.size = bp := h; omega))
  have R2 := Lib.hid (R1.out.kept k2 (fun h => by have : (w.heap.size + 1) = bp := h; omega))
  have D2 := Lib.hid (D1.out.kept k2 (fun h => by have : (mb + 1) = bp := h; omega))
  have M2 := Lib.hid (M1.out.kept k2 (fun h => by have : mb = bp := h; omega))
  have K2 := Lib.hid (K1.out.callB k2 (rfl)); have A2 := Lib.hid a2; have H2 := Lib.hid h2; have hs2 := k2.size
  clear h2 a2 k2 cP0 P1 R1 D1 M1 K1 A1
  unfold tkV
  go_upto_region 3 with fail
  have X3 := Blk.new W2 54 [.int .i64 (t.kind : Nat), .string ⟨t.text.toArray⟩, .int .i64 (t.val : Nat), .int .i64 (t.pos : Nat)]
  have P3 := P2.out.alloc (.cells #[.int .i64 (t.kind : Nat), .string ⟨t.text.toArray⟩, .int .i64 (t.val : Nat), .int .i64 (t.pos : Nat)] 54)
  have R3 := R2.out.alloc (.cells #[.int .i64 (t.kind : Nat), .string ⟨t.text.toArray⟩, .int .i64 (t.val : Nat), .int .i64 (t.pos : Nat)] 54)
  have D3 := D2.out.alloc (.cells #[.int .i64 (t.kind : Nat), .string ⟨t.text.toArray⟩, .int .i64 (t.val : Nat), .int .i64 (t.pos : Nat)] 54)
  have M3 := M2.out.kept (E := fun _ => False) ((Kp.refl _ _).alloc (.cells #[.int .i64 (t.kind : Nat), .string ⟨t.text.toArray⟩, .int .i64 (t.val : Nat), .int .i64 (t.pos : Nat)] 54)) (fun h => h)
  have K3 := K2.out.alloc (.cells #[.int .i64 (t.kind : Nat), .string ⟨t.text.toArray⟩, .int .i64 (t.val : Nat), .int .i64 (t.pos : Nat)] 54)
  have A3 := A2.out.kept (E := fun _ => False) ((Kp.refl _ _).alloc (.cells #[.int .i64 (t.kind : Nat), .string ⟨t.text.toArray⟩, .int .i64 (t.val : Nat), .int .i64 (t.pos : Nat)] 54)) (fun _ h => h.elim)
  have hs3 : W2.heap.size < (W2.alloc (.cells #[.int .i64 (t.kind : Nat), .string ⟨t.text.toArray⟩, .int .i64 (t.val : Nat), .int .i64 (t.pos : Nat)] 54)).heap.size := by simp
  generalize W2.alloc (.cells #[.int .i64 (t.kind : Nat), .string ⟨t.text.toArray⟩, .int .i64 (t.val : Nat), .int .i64 (t.pos : Nat)] 54) = W3 at *
  generalize W2.heap.size = xb at *
  have P3 := Lib.hid P3
  have R3 := Lib.hid R3
  have D3 := Lib.hid D3
  have X3 := Lib.hid X3
  have M3 := Lib.hid M3
  have K3 := Lib.hid K3; have A3 := Lib.hid A3
  clear P2 R2 D2 M2 K2 A2
  have ml := heads_look _ M3.out t.text
  have hk0 : headKind t.text ≠ 0 := of_decide_eq_true (takeP_ok H2.out).2
  obtain ⟨f, hf, HOK⟩ := head_ok bp hk0 (headKind_le t.text)
  rw [hf] at ml
  unfold headF at ml
  obtain ⟨kd, hkd⟩ : ∃ kd, headKind t.text = kd := ⟨_, rfl⟩
  rw [hkd] at ml HOK
  have HKD := Lib.hid hkd; have HOK := Lib.hid HOK
  clear hkd hf hk0 M3
  have cX := X3.out.cell (i := 1) rfl
  have cD := D3.out.cell (i := 0) rfl
  go_upto_region 4 with fail
  clear cX cD ml
  have Q4 := Blk.new W3 99 [.int .i64 (kd : Nat), .func (.func f) #[.pointer (some ⟨bp, 0, none⟩)] #[]]
  have P4 := P3.out.alloc (.cells #[.int .i64 (kd : Nat), .func (.func f) #[.pointer (some ⟨bp, 0, none⟩)] #[]] 99)
  have R4 := R3.out.alloc (.cells #[.int .i64 (kd : Nat), .func (.func f) #[.pointer (some ⟨bp, 0, none⟩)] #[]] 99)
  have D4 := D3.out.alloc (.cells #[.int .i64 (kd : Nat), .func (.func f) #[.pointer (some ⟨bp, 0, none⟩)] #[]] 99)
  have X4 := X3.out.alloc (.cells #[.int .i64 (kd : Nat), .func (.func f) #[.pointer (some ⟨bp, 0, none⟩)] #[]] 99)
  have K4 := K3.out.alloc (.cells #[.int .i64 (kd : Nat), .func (.func f) #[.pointer (some ⟨bp, 0, none⟩)] #[]] 99)
  have A4 := A3.out.kept (E := fun _ => False) ((Kp.refl _ _).alloc (.cells #[.int .i64 (kd : Nat), .func (.func f) #[.pointer (some ⟨bp, 0, none⟩)] #[]] 99)) (fun _ h => h.elim)
  have hs4 : W3.heap.size < (W3.alloc (.cells #[.int .i64 (kd : Nat), .func (.func f) #[.pointer (some ⟨bp, 0, none⟩)] #[]] 99)).heap.size := by simp
  generalize W3.alloc (.cells #[.int .i64 (kd : Nat), .func (.func f) #[.pointer (some ⟨bp, 0, none⟩)] #[]] 99) = W4 at *
  generalize W3.heap.size = hb at *
  have P4 := Lib.hid P4
  have R4 := Lib.hid R4
  have D4 := Lib.hid D4
  have X4 := Lib.hid X4
  have Q4 := Lib.hid Q4
  have K4 := Lib.hid K4; have A4 := Lib.hid A4
  clear P3 R3 D3 X3  K3 A3
  go_cut [6] from 16 (fun v wx => ∃ (ib : Nat) (n : TokP) (r' : List TokP), v = .pointer (some ⟨ib, 0, none⟩) ∧ W4.heap.size ≤ ib ∧ Hid (nameT r2 = .ok n r') ∧ Hid (At wx bp L r') ∧ Hid (Kp (onlyB bp) w wx) ∧ Hid (Blk wx ib 38 [.int .i64 (kd : Nat), .string ⟨n.text.toArray⟩, .slice none 0 0, .int .i64 0, .int .i64 0, .int .i64 0, .int .i64 0, .int .i64 0, .int .i64 (t.pos : Nat)]) ∧ Hid (Blk wx w.heap.size 58 [.pointer (some ⟨bp, 0, none⟩)]) ∧ Hid (Blk wx hb 99 [.int .i64 (kd : Nat), .func (.func f) #[.pointer (some ⟨bp, 0, none⟩)] #[]]) ∧ Hid (Blk wx (w.heap.size + 1) 38 [.int .i64 0, .string ⟨#[]⟩, .slice none 0 0, .int .i64 0, .int .i64 0, .int .i64 0, .int .i64 0, .int .i64 0, .int .i64 0]) ∧ W4.heap.size ≤ wx.heap.size)
  case first =>
    rename_i J KM hRJ hMK
    refine wp_region_any (by kernel_rfl) ?_
    refine any_of_held (S := fun W => Blk W hb 99 [.int .i64 (kd : Nat), .func (.func f) #[.pointer (some ⟨bp, 0, none⟩)] #[]] ∧ Blk W w.heap.size 58 [.pointer (some ⟨bp, 0, none⟩)] ∧ Blk W xb 54 [.int .i64 (t.kind : Nat), .string ⟨t.text.toArray⟩, .int .i64 (t.val : Nat), .int .i64 (t.pos : Nat)]) (N := [9]) _ _ _ _ ?_
    have hS0 : Blk W4.drew hb 99 [.int .i64 (kd : Nat), .func (.func f) #[.pointer (some ⟨bp, 0, none⟩)] #[]] ∧ Blk W4.drew w.heap.size 58 [.pointer (some ⟨bp, 0, none⟩)] ∧ Blk W4.drew xb 54 [.int .i64 (t.kind : Nat), .string ⟨t.text.toArray⟩, .int .i64 (t.val : Nat), .int .i64 (t.pos : Nat)] := ⟨Q4.out, P4.out, X4.out⟩
    have RZ : Hid (Blk W4.drew (w.heap.size + 1) 38 [.int .i64 0, .string ⟨#[]⟩, .slice none 0 0, .int .i64 0, .int .i64 0, .int .i64 0, .int .i64 0, .int .i64 0, .int .i64 0]) := Lib.hid R4.out
    have AZ : Hid (At W4.drew bp L r2) := Lib.hid (A4.out.kept (E := fun _ => False) (Kp.refl _ _).drew (fun _ h => h.elim))
    have KZ : Hid (Kp (onlyB bp) w W4.drew) := Lib.hid K4.out.drew
    have HSD : Hid (W4.drew.heap.size = W4.heap.size) := Lib.hid rfl
    have hfd := tok_field1
    change held _ _ _ _ _ _ _ _ _ W4.drew
    generalize W4.drew = wd at *
    clear R4 A4 K4 X4 Q4 P4 D4
    refine held_take [1, 7, 9] (i := 0) (v := .pointer (some ⟨hb, 0, none⟩)) rfl (by kernel_rfl) (fun _ _ _ h => h) (Or.inl ⟨by rfl, fun w' hS => by go_simp⟩) hS0 ?_
    try simp only [Act.put, List.setIfInBounds_toArray, List.set_cons_zero, List.set_cons_succ]
    refine held_take [7, 9] (i := 1) (v := .int .i64 (kd : Nat)) rfl (by kernel_rfl) (fun _ _ _ h => h) (Or.inl ⟨by rfl, fun w' hS => by have hc := hS.1.cell (i := 0) rfl; go_simp⟩) hS0 ?_
    try simp only [Act.put, List.setIfInBounds_toArray, List.set_cons_zero, List.set_cons_succ]
    refine held_take [3, 4, 7, 9] (i := 2) (v := .pointer (some ⟨bp, 0, none⟩)) rfl (by kernel_rfl) (fun _ _ _ h => h) (Or.inl ⟨by rfl, fun w' hS => by have hc := hS.2.1.cell (i := 0) rfl; go_simp⟩) hS0 ?_
    try simp only [Act.put, List.setIfInBounds_toArray, List.set_cons_zero, List.set_cons_succ]
    refine held_take [6, 7, 9] (i := 5) (v := .pointer (some ⟨xb, 3, none⟩)) rfl (by kernel_rfl) (fun _ _ _ h => h) (Or.inl ⟨by rfl, fun w' hS => by go_simp⟩) hS0 ?_
    try simp only [Act.put, List.setIfInBounds_toArray, List.set_cons_zero, List.set_cons_succ]
    refine held_take [7, 9] (i := 6) (v := .int .i64 (t.pos : Nat)) rfl (by kernel_rfl) (fun _ _ _ h => h) (Or.inl ⟨by rfl, fun w' hS => by have hc := hS.2.2.cell (i := 3) rfl; go_simp⟩) hS0 ?_
    try simp only [Act.put, List.setIfInBounds_toArray, List.set_cons_zero, List.set_cons_succ]
    refine held_two (i := 3) (j := 8) rfl rfl (by kernel_rfl) (fun K hK => ?_) (fun K hK => ?_)
    · go_simp
      refine (name_any bp L r2 _ AZ.out).mono ?_
      rintro e w9 (⟨n, r9, h9, rfl, a9, k9⟩ | ⟨c9, r9, h9, rfl, k9⟩)
      rotate_left
      · have KK := Lib.hid (KZ.out.callB k9 (rfl)); have HB := Lib.hid h9
        clear h9 k9
        unfold failP
        refine ⟨rfl, gives_bad _ _ ?_ KK.out⟩
        exact (then_bad ((then_of H2.out).trans (then_bad HB.out)) : itemP ts = _)
      have hS1 : Blk w9 hb 99 [.int .i64 (kd : Nat), .func (.func f) #[.pointer (some ⟨bp, 0, none⟩)] #[]] ∧ Blk w9 w.heap.size 58 [.pointer (some ⟨bp, 0, none⟩)] ∧ Blk w9 xb 54 [.int .i64 (t.kind : Nat), .string ⟨t.text.toArray⟩, .int .i64 (t.val : Nat), .int .i64 (t.pos : Nat)] := ⟨hS0.1.kept k9 (fun h => by have : hb = bp := h; omega), hS0.2.1.kept k9 (fun h => by have : w.heap.size = bp := h; omega), hS0.2.2.kept k9 (fun h => by have : xb = bp := h; omega)⟩
      have RY := Lib.hid (RZ.out.kept k9 (fun h => by have : w.heap.size + 1 = bp := h; omega))
      have KY := Lib.hid (KZ.out.callB k9 (rfl)); have AY := Lib.hid a9; have HY := Lib.hid h9; have hs9 := k9.size
      clear h9 a9 k9 RZ KZ AZ hS0
      refine hK.out _ _ (fun _ => hS1) ?_
      clear hK K
      try simp only [Act.put, List.setIfInBounds_toArray, List.set_cons_zero, List.set_cons_succ]
      unfold tkV
      refine held_take [7, 9] (i := 4) (v := .string ⟨n.text.toArray⟩) rfl (by kernel_rfl) (fun _ _ _ h => h) (Or.inl ⟨by rfl, fun w' hS => by go_simp⟩) hS1 ?_
      try simp only [Act.put, List.setIfInBounds_toArray, List.set_cons_zero, List.set_cons_succ]
      refine held_take [9] (i := 7) (v := .agg #[.int .i64 (kd : Nat), .string ⟨n.text.toArray⟩, .slice none 0 0, .int .i64 0, .int .i64 0, .int .i64 0, .int .i64 0, .int .i64 0, .int .i64 (t.pos : Nat)]) rfl (by kernel_rfl) (fun _ _ _ h => h) (Or.inl ⟨by rfl, fun w' hS => by go_simp⟩) hS1 ?_
      try simp only [Act.put, List.setIfInBounds_toArray, List.set_cons_zero, List.set_cons_succ]
      refine held_one (i := 8) rfl (by kernel_rfl) (fun K hK => ?_)
      go_simp
      refine hK.out _ _ (fun _ => ⟨hS1.1.alloc _, hS1.2.1.alloc _, hS1.2.2.alloc _⟩) ?_
      clear hK K
      try simp only [Act.put, List.setIfInBounds_toArray, List.set_cons_zero, List.set_cons_succ]
      refine held_one (i := 9) rfl (by kernel_rfl) (fun K hK => ?_)
      go_simp
      refine hK.out _ _ (fun h => absurd (by decide) h) ?_
      clear hK K
      try simp only [Act.put, List.setIfInBounds_toArray, List.set_cons_zero, List.set_cons_succ]
      refine held_done (by kernel_rfl) ?_ _
      refine hMK _ _ (Met.intro (hRJ _ _ ?_))
      (repeat apply Exists.intro)
      refine ⟨?rel, rfl⟩
      have hsd := HSD.out
      refine ⟨_, n, r9, rfl, ?_, HY, ?_, ?_, ?_, ?_, ?_, ?_, ?_⟩
      · omega
      · exact Lib.hid (AY.out.kept (E := fun _ => False) ((Kp.refl _ _).alloc _) (fun _ h => h.elim))
      · exact Lib.hid (KY.out.alloc _)
      · exact Lib.hid (Blk.new w9 38 [.int .i64 (kd : Nat), .string ⟨n.text.toArray⟩, .slice none 0 0, .int .i64 0, .int .i64 0, .int .i64 0, .int .i64 0, .int .i64 0, .int .i64 (t.pos : Nat)])
      · exact Lib.hid (hS1.2.1.alloc _)
      · exact Lib.hid (hS1.1.alloc _)
      · exact Lib.hid (RY.out.alloc _)
      · rw [World.size_alloc]; omega
    · go_simp
      have hZ : Blk (wd.alloc (.cells #[.int .i64 0, .string ⟨#[]⟩, .slice none 0 0, .int .i64 0, .int .i64 0, .int .i64 0, .int .i64 0, .int .i64 0, .int .i64 0] 38)) wd.heap.size 38 [.int .i64 0, .string ⟨#[]⟩, .slice none 0 0, .int .i64 0, .int .i64 0, .int .i64 0, .int .i64 0, .int .i64 0, .int .i64 0] := Blk.new wd 38 [.int .i64 0, .string ⟨#[]⟩, .slice none 0 0, .int .i64 0, .int .i64 0, .int .i64 0, .int .i64 0, .int .i64 0, .int .i64 0]
      have hS2 : Blk (wd.alloc (.cells #[.int .i64 0, .string ⟨#[]⟩, .slice none 0 0, .int .i64 0, .int .i64 0, .int .i64 0, .int .i64 0, .int .i64 0, .int .i64 0] 38)) hb 99 [.int .i64 (kd : Nat), .func (.func f) #[.pointer (some ⟨bp, 0, none⟩)] #[]] ∧ Blk (wd.alloc (.cells #[.int .i64 0, .string ⟨#[]⟩, .slice none 0 0, .int .i64 0, .int .i64 0, .int .i64 0, .int .i64 0, .int .i64 0, .int .i64 0] 38)) w.heap.size 58 [.pointer (some ⟨bp, 0, none⟩)] ∧ Blk (wd.alloc (.cells #[.int .i64 0, .string ⟨#[]⟩, .slice none 0 0, .int .i64 0, .int .i64 0, .int .i64 0, .int .i64 0, .int .i64 0, .int .i64 0] 38)) xb 54 [.int .i64 (t.kind : Nat), .string ⟨t.text.toArray⟩, .int .i64 (t.val : Nat), .int .i64 (t.pos : Nat)] := ⟨hS0.1.alloc _, hS0.2.1.alloc _, hS0.2.2.alloc _⟩
      have RX := Lib.hid (RZ.out.alloc (.cells #[.int .i64 0, .string ⟨#[]⟩, .slice none 0 0, .int .i64 0, .int .i64 0, .int .i64 0, .int .i64 0, .int .i64 0, .int .i64 0] 38))
      have KX := Lib.hid (KZ.out.alloc (.cells #[.int .i64 0, .string ⟨#[]⟩, .slice none 0 0, .int .i64 0, .int .i64 0, .int .i64 0, .int .i64 0, .int .i64 0, .int .i64 0] 38))
      have AX := Lib.hid (AZ.out.kept (E := fun _ => False) ((Kp.refl _ _).alloc (.cells #[.int .i64 0, .string ⟨#[]⟩, .slice none 0 0, .int .i64 0, .int .i64 0, .int .i64 0, .int .i64 0, .int .i64 0, .int .i64 0] 38)) (fun _ h => h.elim))
      have hsx : (wd.alloc (.cells #[.int .i64 0, .string ⟨#[]⟩, .slice none 0 0, .int .i64 0, .int .i64 0, .int .i64 0, .int .i64 0, .int .i64 0, .int .i64 0] 38)).heap.size = wd.heap.size + 1 := by simp
      clear RZ KZ AZ hS0
      refine hK.out _ _ (fun _ => hS2) ?_
      clear hK K
      try simp only [Act.put, List.setIfInBounds_toArray, List.set_cons_zero, List.set_cons_succ]
      have HZ := Lib.hid hZ
      clear hZ
      generalize wd.alloc (.cells #[.int .i64 0, .string ⟨#[]⟩, .slice none 0 0, .int .i64 0, .int .i64 0, .int .i64 0, .int .i64 0, .int .i64 0, .int .i64 0] 38) = wa at *
      generalize wd.heap.size = ib at *
      refine held_one (i := 3) rfl (by kernel_rfl) (fun K hK => ?_)
      go_simp
      refine (name_any bp L r2 _ AX.out).mono ?_
      rintro e w9 (⟨n, r9, h9, rfl, a9, k9⟩ | ⟨c9, r9, h9, rfl, k9⟩)
      rotate_left
      · have KK := Lib.hid (KX.out.callB k9 (rfl)); have HB := Lib.hid h9
        clear h9 k9
        unfold failP
        refine ⟨rfl, gives_bad _ _ ?_ KK.out⟩
        exact (then_bad ((then_of H2.out).trans (then_bad HB.out)) : itemP ts = _)
      have hS1 : Blk w9 hb 99 [.int .i64 (kd : Nat), .func (.func f) #[.pointer (some ⟨bp, 0, none⟩)] #[]] ∧ Blk w9 w.heap.size 58 [.pointer (some ⟨bp, 0, none⟩)] ∧ Blk w9 xb 54 [.int .i64 (t.kind : Nat), .string ⟨t.text.toArray⟩, .int .i64 (t.val : Nat), .int .i64 (t.pos : Nat)] := ⟨hS2.1.kept k9 (fun h => by have : hb = bp := h; omega), hS2.2.1.kept k9 (fun h => by have : w.heap.size = bp := h; omega), hS2.2.2.kept k9 (fun h => by have : xb = bp := h; omega)⟩
      have RY := Lib.hid (RX.out.kept k9 (fun h => by have : w.heap.size + 1 = bp := h; omega))
      have ZY := Lib.hid (HZ.out.kept k9 (fun h => by have h1 : ib = bp := h; have h2 := HSD.out; omega))
      have KY := Lib.hid (KX.out.callB k9 (rfl)); have AY := Lib.hid a9; have HY := Lib.hid h9; have hs9 := k9.size
      clear h9 a9 k9 RX KX AX HZ hS2
      refine hK.out _ _ (fun _ => hS1) ?_
      clear hK K
      try simp only [Act.put, List.setIfInBounds_toArray, List.set_cons_zero, List.set_cons_succ]
      unfold tkV
      refine held_take [7, 9] (i := 4) (v := .string ⟨n.text.toArray⟩) rfl (by kernel_rfl) (fun _ _ _ h => h) (Or.inl ⟨by rfl, fun w' hS => by go_simp⟩) hS1 ?_
      try simp only [Act.put, List.setIfInBounds_toArray, List.set_cons_zero, List.set_cons_succ]
      refine held_take [9] (i := 7) (v := .agg #[.int .i64 (kd : Nat), .string ⟨n.text.toArray⟩, .slice none 0 0, .int .i64 0, .int .i64 0, .int .i64 0, .int .i64 0, .int .i64 0, .int .i64 (t.pos : Nat)]) rfl (by kernel_rfl) (fun _ _ _ h => h) (Or.inl ⟨by rfl, fun w' hS => by go_simp⟩) hS1 ?_
      try simp only [Act.put, List.setIfInBounds_toArray, List.set_cons_zero, List.set_cons_succ]
      have z0 := ZY.out.cell (i := 0) rfl
      have z1 := ZY.out.cell (i := 1) rfl
      have z2 := ZY.out.cell (i := 2) rfl
      have z3 := ZY.out.cell (i := 3) rfl
      have z4 := ZY.out.cell (i := 4) rfl
      have z5 := ZY.out.cell (i := 5) rfl
      have z6 := ZY.out.cell (i := 6) rfl
      have z7 := ZY.out.cell (i := 7) rfl
      have z8 := ZY.out.cell (i := 8) rfl
      have zf := ZY.out.free
      refine held_one (i := 9) rfl (by kernel_rfl) (fun K hK => ?_)
      go_simp
      refine hK.out _ _ (fun h => absurd (by decide) h) ?_
      clear hK K z0 z1 z2 z3 z4 z5 z6 z7 z8 zf
      try simp only [Act.put, List.setIfInBounds_toArray, List.set_cons_zero, List.set_cons_succ]
      refine held_done (by kernel_rfl) ?_ _
      refine hMK _ _ (Met.intro (hRJ _ _ ?_))
      (repeat apply Exists.intro)
      refine ⟨?rel2, rfl⟩
      rw [setCells_nine]
      have kr := Kp.setCells (E := fun k => k = ib) (p := ib) (Or.inl rfl) [.int .i64 (kd : Nat), .string ⟨n.text.toArray⟩, .slice none 0 0, .int .i64 0, .int .i64 0, .int .i64 0, .int .i64 0, .int .i64 0, .int .i64 (t.pos : Nat)] 0 w9 (Kp.refl _ _)
      have hsd := HSD.out
      refine ⟨ib, n, r9, rfl, ?_, HY, ?_, ?_, ?_, ?_, ?_, ?_, ?_⟩
      · omega
      · exact Lib.hid (AY.out.result (by omega) _)
      · exact Lib.hid (KY.out.result (by omega) _)
      · exact Lib.hid (ZY.out.whole (vs := [.int .i64 (kd : Nat), .string ⟨n.text.toArray⟩, .slice none 0 0, .int .i64 0, .int .i64 0, .int .i64 0, .int .i64 0, .int .i64 0, .int .i64 (t.pos : Nat)]) rfl)
      · exact Lib.hid (hS1.2.1.kept kr (fun h => by have : w.heap.size = ib := h; omega))
      · exact Lib.hid (hS1.1.kept kr (fun h => by have : hb = ib := h; omega))
      · exact Lib.hid (RY.out.kept kr (fun h => by have : w.heap.size + 1 = ib := h; omega))
      · exact Nat.le_trans (by omega) kr.size
  case rest =>
    obtain ⟨ib, n, r5, rfl, hle, HN, A5, K5, V5, P5, Q5, R5, hs5⟩ := hcut
    clear P4 Q4 R4 X4 D4 K4 A4
    have hent := HOK.out.ent
    have cQ := Q5.out.cell (i := 1) rfl
    go_wp2_with fail
    refine (HOK.out.calls L ib kd t.pos n.text (.slice none 0 0) r5 _ A5.out V5.out (by omega)).mono ?_
    rintro e W6 (⟨hd, r6, h6, ⟨rfl, v6⟩, a6, k6⟩ | ⟨c6, r6, h6, rfl, k6⟩)
    rotate_left
    · have KK := Lib.hid (K5.out.call k6 (fun k hk => hk.elim (fun h => Or.inl h) (fun h => Or.inr (by have : k = ib := h; omega)))); have HB := Lib.hid h6
      clear h6 k6
      unfold failP
      go_wp2
      refine ⟨rfl, gives_bad _ _ ?_ KK.out⟩
      exact (then_bad ((then_of H2.out).trans ((then_of HN.out).trans (by rw [HKD.out]; exact then_bad HB.out))) : itemP ts = _)
    have HF : Hid (frontP ts = .ok (t, n, hd) r6) := Lib.hid ((then_of H2.out).trans ((then_of HN.out).trans (by rw [HKD.out]; exact then_of h6)))
    have V6 : Hid (Blk W6 ib 38 [.int .i64 (kd : Nat), .string ⟨n.text.toArray⟩, .slice none 0 0, .int .i64 (hd.n : Nat), .int .i64 (hd.rn : Nat), .int .i64 (hd.rd : Nat), .int .i64 (hd.sn : Nat), .int .i64 (hd.sd : Nat), .int .i64 (t.pos : Nat)]) := Lib.hid v6
    have P6 := Lib.hid (P5.out.kept k6 (fun h => h.elim (fun h => by have : w.heap.size = bp := h; omega) (fun h => by have : w.heap.size = ib := h; omega)))
    have R6 := Lib.hid (R5.out.kept k6 (fun h => h.elim (fun h => by have : w.heap.size + 1 = bp := h; omega) (fun h => by have : w.heap.size + 1 = ib := h; omega)))
    have K6 := Lib.hid (K5.out.call k6 (fun k hk => hk.elim (fun h => Or.inl h) (fun h => Or.inr (by have : k = ib := h; omega)))); have A6 := Lib.hid a6; have hs6 := k6.size
    have hib : ib < W6.heap.size := V6.out.lt
    clear h6 v6 a6 k6 P5 Q5 R5 K5 A5 V5 HN H2 hent cQ HOK
    have cP := P6.out.cell (i := 0) rfl
    go_wp2_with fail
    refine (skip_any bp L r6 wWhen _ A6.out).mono ?_
    rintro e W7 ⟨⟨r7, h7, rfl, a7⟩ | ⟨h7, rfl, a7⟩, k7⟩
    · have V7 := Lib.hid (V6.out.kept k7 (fun h => by have : ib = bp := h; omega))
      have P7 := Lib.hid (P6.out.kept k7 (fun h => by have : w.heap.size = bp := h; omega))
      have R7 := Lib.hid (R6.out.kept k7 (fun h => by have : w.heap.size + 1 = bp := h; omega))
      have K7 := Lib.hid (K6.out.callB k7 rfl); have A7 := Lib.hid a7; have hs7 := k7.size
      have H7 := Lib.hid h7
      clear h7 a7 k7 cP V6 P6 R6 K6 A6
      have hmf := makes_func
      have cP := P7.out.cell (i := 0) rfl
      go_wp2_with fail
      refine (listTests_any bp L w.heap.size r7 _ A7.out P7.out (by omega)).mono ?_
      rintro e W8 (⟨cs, r8, h8, ⟨lv, rfl, hlv⟩, a8, k8⟩ | ⟨c8, r8, h8, rfl, k8⟩)
      rotate_left
      · have KK := Lib.hid (K7.out.callB k8 rfl); have HB := Lib.hid h8
        clear h8 k8
        unfold failP
        go_wp2
        refine ⟨rfl, gives_bad _ _ ?_ KK.out⟩
        exact ((then_of HF.out).trans (then_bad ((ifSep_some H7.out).trans HB.out)) : itemP ts = _)
      obtain ⟨sa, sn, sc, rfl⟩ := hlv.slice
      have V8 := Lib.hid (V7.out.kept k8 (fun h => by have : ib = bp := h; omega))
      have P8 := Lib.hid (P7.out.kept k8 (fun h => by have : w.heap.size = bp := h; omega))
      have R8 := Lib.hid (R7.out.kept k8 (fun h => by have : w.heap.size + 1 = bp := h; omega))
      have K8 := Lib.hid (K7.out.callB k8 rfl); have A8 := Lib.hid a8; have hs8 := k8.size
      have HCS : Hid (condsP r6 = .ok cs r8) := Lib.hid ((ifSep_some H7.out).trans h8)
      have LV8 := Lib.hid hlv
      clear h8 a8 k8 hlv cP V7 P7 R7 K7 A7
      have cs2 := V8.out.cell (i := 2) rfl
      have cf2 := V8.out.free 2
      go_upto_region 8 with fail
      have v9 : Blk (W8.setCell ⟨ib, 2, none⟩ (.slice sa sn sc)) ib 38 [.int .i64 (kd : Nat), .string ⟨n.text.toArray⟩, .slice sa sn sc, .int .i64 (hd.n : Nat), .int .i64 (hd.rn : Nat), .int .i64 (hd.rd : Nat), .int .i64 (hd.sn : Nat), .int .i64 (hd.sd : Nat), .int .i64 (t.pos : Nat)] := V8.out.set 2 (.slice sa sn sc)
      have p9 := P8.out.other (p := ⟨ib, 2, none⟩) (by show ¬ ib = w.heap.size; omega) (.slice sa sn sc)
      have q9 := R8.out.other (p := ⟨ib, 2, none⟩) (by show ¬ ib = w.heap.size + 1; omega) (.slice sa sn sc)
      have k9 := K8.out.setNew ib 2 (by omega) (.slice sa sn sc)
      have ks := (Kp.refl (onlyB ib) W8).setOld ib 2 rfl (.slice sa sn sc)
      have a9 := A8.out.kept (E := onlyB ib) ks (fun k hk => by have : k = ib := hk; omega)
      have l9 := LV8.out.kept (W' := W8.setCell ⟨ib, 2, none⟩ (.slice sa sn sc)) (fun q hq hlt => ks.block q hlt (fun h => by have h1 : q = ib := h; have h2 : W7.heap.size ≤ q := hq; omega))
      have hs9 : W8.heap.size ≤ (W8.setCell ⟨ib, 2, none⟩ (.slice sa sn sc)).heap.size := by simp
      clear cs2 cf2 ks V8 P8 R8 K8 A8 LV8
      generalize W8.setCell ⟨ib, 2, none⟩ (.slice sa sn sc) = W9 at *
      have V9 := Lib.hid v9; have P9 := Lib.hid p9; have R9 := Lib.hid q9; have K9 := Lib.hid k9; have A9 := Lib.hid a9; have LV9 := Lib.hid l9
      clear v9 p9 q9 k9 a9 l9
      have cP := P9.out.cell (i := 0) rfl
      go_wp2_with fail
      refine (word_any bp L r8 wSemi _ A9.out).mono ?_
      rintro e W10 (⟨u, r10, h10, rfl, a10, k10⟩ | ⟨c10, r10, h10, rfl, k10⟩)
      rotate_left
      · have KK := Lib.hid (K9.out.callB k10 rfl); have HB := Lib.hid h10
        clear h10 k10
        unfold failP
        go_wp2
        refine ⟨rfl, gives_bad _ _ ?_ KK.out⟩
        exact ((then_of HF.out).trans ((then_of HCS.out).trans (then_bad HB.out)) : itemP ts = _)
      have V10 := Lib.hid (V9.out.kept k10 (fun h => by have : ib = bp := h; omega))
      have P10 := Lib.hid (P9.out.kept k10 (fun h => by have : w.heap.size = bp := h; omega))
      have R10 := Lib.hid (R9.out.kept k10 (fun h => by have : w.heap.size + 1 = bp := h; omega))
      have K10 := Lib.hid (K9.out.callB k10 rfl); have A10 := Lib.hid a10; have hs10 := k10.size
      have LV10 := Lib.hid (LV9.out.kept (W' := W10) (fun q hq hlt => k10.block q hlt (fun h => by have h1 : q = bp := h; have h2 : W7.heap.size ≤ q := hq; omega)))
      have H10 := Lib.hid h10
      clear h10 a10 k10 cP V9 P9 R9 K9 A9
      have x0 := V10.out.cell (i := 0) rfl
      have x1 := V10.out.cell (i := 1) rfl
      have x2 := V10.out.cell (i := 2) rfl
      have x3 := V10.out.cell (i := 3) rfl
      have x4 := V10.out.cell (i := 4) rfl
      have x5 := V10.out.cell (i := 5) rfl
      have x6 := V10.out.cell (i := 6) rfl
      have x7 := V10.out.cell (i := 7) rfl
      have x8 := V10.out.cell (i := 8) rfl
      have z0 := R10.out.cell (i := 0) rfl
      have z1 := R10.out.cell (i := 1) rfl
      have z2 := R10.out.cell (i := 2) rfl
      have z3 := R10.out.cell (i := 3) rfl
      have z4 := R10.out.cell (i := 4) rfl
      have z5 := R10.out.cell (i := 5) rfl
      have z6 := R10.out.cell (i := 6) rfl
      have z7 := R10.out.cell (i := 7) rfl
      have z8 := R10.out.cell (i := 8) rfl
      have zf := R10.out.free
      go_wp2
      rw [setCells_nine]
      have kr := Kp.setCells (E := fun q => q = w.heap.size + 1) (p := w.heap.size + 1) (Or.inl rfl) [.int .i64 (kd : Nat), .string ⟨n.text.toArray⟩, .slice sa sn sc, .int .i64 (hd.n : Nat), .int .i64 (hd.rn : Nat), .int .i64 (hd.rd : Nat), .int .i64 (hd.sn : Nat), .int .i64 (hd.sd : Nat), .int .i64 (t.pos : Nat)] 0 W10 (Kp.refl _ _)
      refine bodyPost_ret (results_cell_mid rfl _ _ (w.heap.size + 1) [.int .i64 (kd : Nat), .string ⟨n.text.toArray⟩, .slice sa sn sc, .int .i64 (hd.n : Nat), .int .i64 (hd.rn : Nat), .int .i64 (hd.rd : Nat), .int .i64 (hd.sn : Nat), .int .i64 (hd.sd : Nat), .int .i64 (t.pos : Nat)] _ rfl (R10.out.whole (vs := [.int .i64 (kd : Nat), .string ⟨n.text.toArray⟩, .slice sa sn sc, .int .i64 (hd.n : Nat), .int .i64 (hd.rn : Nat), .int .i64 (hd.rd : Nat), .int .i64 (hd.sn : Nat), .int .i64 (hd.sd : Nat), .int .i64 (t.pos : Nat)]) rfl).range Tryd.underlying38 rfl (by kernel_rfl)) rfl ?_
      refine gives_ok ⟨kd, n.text, cs, hd, t.pos⟩ r10 ?_ ⟨_, rfl, ⟨.slice sa sn sc, rfl, (LV10.out.kept (fun q hq hlt => kr.block q hlt (fun h => by have h1 : q = w.heap.size + 1 := h; have h2 : W7.heap.size ≤ q := hq; omega))).mono (fun q hq _ => by have h2 : W7.heap.size ≤ q := hq; show w.heap.size ≤ q; omega)⟩⟩ (A10.out.result (by omega) _) (K10.out.result (by omega) _)
      refine ((then_of HF.out).trans ((then_of HCS.out).trans (then_of H10.out)) : itemP ts = _).trans ?_
      show Res.ok (⟨headKind t.text, n.text, cs, hd, t.pos⟩ : ItemP) r10 = _
      rw [HKD.out]
    · have V7 := Lib.hid (V6.out.kept k7 (fun h => by have : ib = bp := h; omega))
      have P7 := Lib.hid (P6.out.kept k7 (fun h => by have : w.heap.size = bp := h; omega))
      have R7 := Lib.hid (R6.out.kept k7 (fun h => by have : w.heap.size + 1 = bp := h; omega))
      have K7 := Lib.hid (K6.out.callB k7 rfl); have A7 := Lib.hid a7; have hs7 := k7.size
      have HCS : Hid (condsP r6 = .ok [] r6) := Lib.hid (ifSep_none h7)
      clear h7 a7 k7 cP V6 P6 R6 K6 A6
      have cP := P7.out.cell (i := 0) rfl
      go_wp2_with fail
      refine (word_any bp L r6 wSemi _ A7.out).mono ?_
      rintro e W8 (⟨u, r8, h8, rfl, a8, k8⟩ | ⟨c8, r8, h8, rfl, k8⟩)
      rotate_left
      · have KK := Lib.hid (K7.out.callB k8 rfl); have HB := Lib.hid h8
        clear h8 k8
        unfold failP
        go_wp2
        refine ⟨rfl, gives_bad _ _ ?_ KK.out⟩
        exact ((then_of HF.out).trans ((then_of HCS.out).trans (then_bad HB.out)) : itemP ts = _)
      have V8 := Lib.hid (V7.out.kept k8 (fun h => by have : ib = bp := h; omega))
      have P8 := Lib.hid (P7.out.kept k8 (fun h => by have : w.heap.size = bp := h; omega))
      have R8 := Lib.hid (R7.out.kept k8 (fun h => by have : w.heap.size + 1 = bp := h; omega))
      have K8 := Lib.hid (K7.out.callB k8 rfl); have A8 := Lib.hid a8; have hs8 := k8.size
      have H8 := Lib.hid h8
      clear h8 a8 k8 cP V7 P7 R7 K7 A7
      have x0 := V8.out.cell (i := 0) rfl
      have x1 := V8.out.cell (i := 1) rfl
      have x2 := V8.out.cell (i := 2) rfl
      have x3 := V8.out.cell (i := 3) rfl
      have x4 := V8.out.cell (i := 4) rfl
      have x5 := V8.out.cell (i := 5) rfl
      have x6 := V8.out.cell (i := 6) rfl
      have x7 := V8.out.cell (i := 7) rfl
      have x8 := V8.out.cell (i := 8) rfl
      have z0 := R8.out.cell (i := 0) rfl
      have z1 := R8.out.cell (i := 1) rfl
      have z2 := R8.out.cell (i := 2) rfl
      have z3 := R8.out.cell (i := 3) rfl
      have z4 := R8.out.cell (i := 4) rfl
      have z5 := R8.out.cell (i := 5) rfl
      have z6 := R8.out.cell (i := 6) rfl
      have z7 := R8.out.cell (i := 7) rfl
      have z8 := R8.out.cell (i := 8) rfl
      have zf := R8.out.free
      go_wp2
      rw [setCells_nine]
      have kr := Kp.setCells (E := fun q => q = w.heap.size + 1) (p := w.heap.size + 1) (Or.inl rfl) [.int .i64 (kd : Nat), .string ⟨n.text.toArray⟩, .slice none 0 0, .int .i64 (hd.n : Nat), .int .i64 (hd.rn : Nat), .int .i64 (hd.rd : Nat), .int .i64 (hd.sn : Nat), .int .i64 (hd.sd : Nat), .int .i64 (t.pos : Nat)] 0 W8 (Kp.refl _ _)
      refine bodyPost_ret (results_cell_mid rfl _ _ (w.heap.size + 1) [.int .i64 (kd : Nat), .string ⟨n.text.toArray⟩, .slice none 0 0, .int .i64 (hd.n : Nat), .int .i64 (hd.rn : Nat), .int .i64 (hd.rd : Nat), .int .i64 (hd.sn : Nat), .int .i64 (hd.sd : Nat), .int .i64 (t.pos : Nat)] _ rfl (R8.out.whole (vs := [.int .i64 (kd : Nat), .string ⟨n.text.toArray⟩, .slice none 0 0, .int .i64 (hd.n : Nat), .int .i64 (hd.rn : Nat), .int .i64 (hd.rd : Nat), .int .i64 (hd.sn : Nat), .int .i64 (hd.sd : Nat), .int .i64 (t.pos : Nat)]) rfl).range Tryd.underlying38 rfl (by kernel_rfl)) rfl ?_
      refine gives_ok ⟨kd, n.text, [], hd, t.pos⟩ r8 ?_ ⟨_, rfl, ⟨.slice none 0 0, rfl, ⟨[], con_nil _ _ _ _, fun q hq => (by cases hq), .nil⟩⟩⟩ (A8.out.result (by omega) _) (K8.out.result (by omega) _)
      refine ((then_of HF.out).trans ((then_of HCS.out).trans (then_of H8.out)) : itemP ts = _).trans ?_
      show Res.ok (⟨headKind t.text, n.text, [], hd, t.pos⟩ : ItemP) r8 = _
      rw [HKD.out]
end Go.Proofs.YtlfjdohjfmfcdabDoor
