/-
  The walk of marks.
-/
import Derived.Test.YtlfjdohjfmfcdaaGreatDoorKinds
import Derived.Carry
namespace Go.Proofs.YtlfjdohjfmfcdaaGreatDoor
open Go.RowKit Go.Sort Go.Shelf Foyer.Plan

def marksL : List (List UInt8 × Value) := [(wGap, .int .i64 1), (wWheel, .int .i64 2), (wHidden, .int .i64 3), (wBeside, .int .i64 4)]
theorem marks_at (s : List UInt8) : (entryAt s marksL).getD (.int .i64 0) = .int .i64 (markKind s : Nat) := by
  unfold marksL entryAt markKind
  split
  · rfl
  · unfold entryAt
    split
    · rfl
    · unfold entryAt
      split
      · rfl
      · unfold entryAt
        split
        · rfl
        · rfl
theorem marks_look (w : World) {b c : Nat} (h : MapB w b marksL c) (s : List UInt8) : (Instr.lookup 139 (.map (some b)) (.string ⟨s.toArray⟩) false).run Tryz.prog w = .ok (.int .i64 (markKind s : Nat)) w := by
  rw [map_lookup Tryz.underlying139 Tryz.underlying9 w (z := .int .i64 0) (by kernel_rfl) h, marks_at]
theorem markC_ent (args : Array Value) (w : World) : (callFunc 86 args).run Tryz.prog w = .ok (.enter 86 args) w := enters_of Tryz.func86 (by kernel_rfl) rfl args w
set_option maxRecDepth 100000 in
theorem markC_asks (kb mb c : Nat) (E : Nat → Prop) (w : World) (hk : Blk w kb 139 [.map (some mb)]) (hm : MapB w mb marksL c) (h1 : ¬ E kb) (h2 : ¬ E mb) : Asks 86 #[.pointer (some ⟨kb, 0, none⟩)] (fun t => decide (markKind t.text ≠ 0)) E w := by
  intro w1 t k
  have hB := (hk.kept k h1).alloc (.cells #[.int .i64 (t.kind : Nat), .string ⟨t.text.toArray⟩, .int .i64 (t.val : Nat), .int .i64 (t.pos : Nat)] 67)
  have hM := (hm.kept k h2).kept (E := fun _ => False) ((Kp.refl _ _).alloc (.cells #[.int .i64 (t.kind : Nat), .string ⟨t.text.toArray⟩, .int .i64 (t.val : Nat), .int .i64 (t.pos : Nat)] 67)) (fun h => h)
  have h0 := hB.cell (i := 0) rfl
  have hl := marks_look _ hM t.text
  have e : (((markKind t.text : Nat) : Int) != 0) = decide (markKind t.text ≠ 0) := by
    by_cases h : markKind t.text = 0 <;> simp [h]
  show Calls Tryz.prog 86 #[.agg #[.int .i64 (t.kind : Nat), .string ⟨t.text.toArray⟩, .int .i64 (t.val : Nat), .int .i64 (t.pos : Nat)], .pointer (some ⟨kb, 0, none⟩)] w1 _
  have HE := Lib.hid e
  clear hB hM k hk hm h1 h2 e
  obtain ⟨m, hmk⟩ : ∃ m, markKind t.text = m := ⟨_, rfl⟩
  rw [hmk] at HE hl
  have HMK := Lib.hid hmk
  clear hmk
  go_enter Tryz.func86, Tryz.ntmps86
  go_wp2
  refine bodyPost_ret (results_tmp rfl _ _ _) rfl ⟨?_, (Kp.refl _ _).alloc _⟩
  show Ending.returned (.bool (((m : Nat) : Int) != 0)) = Ending.returned (.bool (decide (markKind t.text ≠ 0)))
  rw [HMK.out, HE.out]

set_option maxRecDepth 100000 in
set_option maxHeartbeats 2000000 in
theorem markp_any (bp L : Nat) (ts : List TokP) (w : World) (h : At w bp L ts) : Calls Tryz.prog 81 #[.pointer (some ⟨bp, 0, none⟩)] w (Gives bp L (onlyB bp) w (markP ts) (KindV markK w.heap.size)) := by
  have hlt := h.lt
  have hmf := makes_func
  have HA := Lib.hid h
  obtain ⟨w1, hw1⟩ : ∃ w1, w.alloc (.cells #[.int .i64 0, .int .i64 0, .int .i64 0] 46) = w1 := ⟨_, rfl⟩
  have hsz : w1.heap.size = w.heap.size + 1 := by rw [← hw1]; simp
  have i0 : (Instr.mapUpdate 139 (.map (some (w.heap.size + 1))) (.string ⟨#[103, 97, 112]⟩) (.int .i64 1)).run Tryz.prog (w1.alloc (.map #[] 0)) = .ok () (w1.alloc (.map (entriesOf 0 [(wGap, .int .i64 1)]).toArray 1)) :=
    map_insert Tryz.underlying139 Tryz.underlying9 w1 [] wGap (.int .i64 1) rfl 0 rfl _ hsz.symm
  have i1 : (Instr.mapUpdate 139 (.map (some (w.heap.size + 1))) (.string ⟨#[119, 104, 101, 101, 108]⟩) (.int .i64 2)).run Tryz.prog (w1.alloc (.map (entriesOf 0 [(wGap, .int .i64 1)]).toArray 1)) = .ok () (w1.alloc (.map (entriesOf 0 [(wGap, .int .i64 1), (wWheel, .int .i64 2)]).toArray 2)) :=
    map_insert Tryz.underlying139 Tryz.underlying9 w1 [(wGap, .int .i64 1)] wWheel (.int .i64 2) rfl 1 rfl _ hsz.symm
  have i2 : (Instr.mapUpdate 139 (.map (some (w.heap.size + 1))) (.string ⟨#[104, 105, 100, 100, 101, 110]⟩) (.int .i64 3)).run Tryz.prog (w1.alloc (.map (entriesOf 0 [(wGap, .int .i64 1), (wWheel, .int .i64 2)]).toArray 2)) = .ok () (w1.alloc (.map (entriesOf 0 [(wGap, .int .i64 1), (wWheel, .int .i64 2), (wHidden, .int .i64 3)]).toArray 3)) :=
    map_insert Tryz.underlying139 Tryz.underlying9 w1 [(wGap, .int .i64 1), (wWheel, .int .i64 2)] wHidden (.int .i64 3) rfl 2 rfl _ hsz.symm
  have i3 : (Instr.mapUpdate 139 (.map (some (w.heap.size + 1))) (.string ⟨#[98, 101, 115, 105, 100, 101]⟩) (.int .i64 4)).run Tryz.prog (w1.alloc (.map (entriesOf 0 [(wGap, .int .i64 1), (wWheel, .int .i64 2), (wHidden, .int .i64 3)]).toArray 3)) = .ok () (w1.alloc (.map (entriesOf 0 marksL).toArray 4)) :=
    map_insert Tryz.underlying139 Tryz.underlying9 w1 [(wGap, .int .i64 1), (wWheel, .int .i64 2), (wHidden, .int .i64 3)] wBeside (.int .i64 4) rfl 3 rfl _ hsz.symm
  clear h
  go_enter Tryz.func81, Tryz.ntmps81
  have hmm : (Instr.makeMap 139 none).run Tryz.prog w1 = .ok (.map (some w1.heap.size)) (w1.alloc (.map #[] 0)) := run_makeMap _ _
  have R0 := ((Blk.new w 46 [.int .i64 0, .int .i64 0, .int .i64 0]).alloc (.map (entriesOf 0 marksL).toArray 4)).alloc (.cells #[.map (some (w.heap.size + 1))] 139)
  have D0 := Blk.new (w1.alloc (.map (entriesOf 0 marksL).toArray 4)) 139 [.map (some (w.heap.size + 1))]
  have M0 : MapB ((w1.alloc (.map (entriesOf 0 marksL).toArray 4)).alloc (.cells #[.map (some (w.heap.size + 1))] 139)) (w.heap.size + 1) marksL 4 := by
    have : MapB (w1.alloc (.map (entriesOf 0 marksL).toArray 4)) (w.heap.size + 1) marksL 4 := by rw [← hsz]; exact (MapKept.heap_alloc w1 _).1
    exact this.kept (E := fun _ => False) ((Kp.refl _ _).alloc _) (fun h => h)
  have K0 := (((Kp.refl (onlyB bp) w).alloc (.cells #[.int .i64 0, .int .i64 0, .int .i64 0] 46)).alloc (.map (entriesOf 0 marksL).toArray 4)).alloc (.cells #[.map (some (w.heap.size + 1))] 139)
  have A0 := HA.out.kept (E := fun _ => False) ((((Kp.refl _ w).alloc (.cells #[.int .i64 0, .int .i64 0, .int .i64 0] 46)).alloc (.map (entriesOf 0 marksL).toArray 4)).alloc (.cells #[.map (some (w.heap.size + 1))] 139)) (fun _ h => h.elim)
  rw [hw1] at R0 K0 A0
  have hs0 : w.heap.size + 3 ≤ ((w1.alloc (.map (entriesOf 0 marksL).toArray 4)).alloc (.cells #[.map (some (w.heap.size + 1))] 139)).heap.size := by simp [hsz]
  have hdn : (w1.alloc (.map (entriesOf 0 marksL).toArray 4)).heap.size = w.heap.size + 2 := by simp [hsz]
  rw [hdn] at D0
  clear HA
  go_upto_region 2 with fail
  clear i0 i1 i2 i3 hmm hdn
  generalize (w1.alloc (.map (entriesOf 0 marksL).toArray 4)).alloc (.cells #[.map (some (w.heap.size + 1))] 139) = W0 at *
  clear hsz hw1 w1
  have R0 := Lib.hid R0; have K0 := Lib.hid K0; have A0 := Lib.hid A0; have D0 := Lib.hid D0; have M0 := Lib.hid M0
  go_wp2_with fail
  refine (take_any bp L ts 86 markC_ent #[.pointer (some ⟨w.heap.size + 2, 0, none⟩)] (fun t => decide (markKind t.text ≠ 0)) _ A0.out (markC_asks (w.heap.size + 2) (w.heap.size + 1) 4 _ _ D0.out M0.out (fun h => h) (fun h => h))).mono ?_
  rintro e W1 (⟨t, r1, h1, rfl, a1, k1⟩ | ⟨r1, h1, rfl, k1⟩)
  rotate_left
  · have KK := Lib.hid (K0.out.trans k1); have HB := Lib.hid h1
    clear h1 k1
    unfold failP
    go_wp2
    refine ⟨rfl, gives_bad _ ?_ KK.out⟩
    show markP ts = _
    unfold markP
    rw [then_bad HB.out]
  have R1 := Lib.hid (R0.out.kept k1 (fun h => by have : w.heap.size = bp := h; omega))
  have D1 := Lib.hid (D0.out.kept k1 (fun h => by have : (w.heap.size + 2) = bp := h; omega))
  have K1 := Lib.hid (K0.out.trans k1); have A1 := Lib.hid a1; have H1 := Lib.hid h1; have hs1 := k1.size
  have M1 := Lib.hid (M0.out.kept k1 (fun h => by have : w.heap.size + 1 = bp := h; omega)); clear M0
  clear h1 a1 k1  R0 D0 K0 A0
  obtain ⟨kd, hkd⟩ : ∃ kd, markKind t.text = kd := ⟨_, rfl⟩
  have ml := marks_look _ (M1.out.kept (E := fun _ => False) ((Kp.refl _ _).alloc (.cells #[.int .i64 (t.kind : Nat), .string ⟨t.text.toArray⟩, .int .i64 (t.val : Nat), .int .i64 (t.pos : Nat)] 67)) (fun h => h)) t.text
  rw [hkd] at ml
  have ML := Lib.hid ml; have HKD := Lib.hid hkd
  clear ml hkd M1
  unfold tkV
  go_upto_region 3 with fail
  have X2 := Blk.new W1 67 [.int .i64 (t.kind : Nat), .string ⟨t.text.toArray⟩, .int .i64 (t.val : Nat), .int .i64 (t.pos : Nat)]
  have R2 := R1.out.alloc (.cells #[.int .i64 (t.kind : Nat), .string ⟨t.text.toArray⟩, .int .i64 (t.val : Nat), .int .i64 (t.pos : Nat)] 67)
  have D2 := D1.out.alloc (.cells #[.int .i64 (t.kind : Nat), .string ⟨t.text.toArray⟩, .int .i64 (t.val : Nat), .int .i64 (t.pos : Nat)] 67)
  have K2 := K1.out.alloc (.cells #[.int .i64 (t.kind : Nat), .string ⟨t.text.toArray⟩, .int .i64 (t.val : Nat), .int .i64 (t.pos : Nat)] 67)
  have A2 := A1.out.kept (E := fun _ => False) ((Kp.refl _ _).alloc (.cells #[.int .i64 (t.kind : Nat), .string ⟨t.text.toArray⟩, .int .i64 (t.val : Nat), .int .i64 (t.pos : Nat)] 67)) (fun _ h => h.elim)
  have hs2 : W1.heap.size < (W1.alloc (.cells #[.int .i64 (t.kind : Nat), .string ⟨t.text.toArray⟩, .int .i64 (t.val : Nat), .int .i64 (t.pos : Nat)] 67)).heap.size := by simp
  generalize W1.alloc (.cells #[.int .i64 (t.kind : Nat), .string ⟨t.text.toArray⟩, .int .i64 (t.val : Nat), .int .i64 (t.pos : Nat)] 67) = W2 at *
  generalize W1.heap.size = xb at *
  have R2 := Lib.hid R2
  have D2 := Lib.hid D2
  have X2 := Lib.hid X2
  have K2 := Lib.hid K2; have A2 := Lib.hid A2
  clear R1 D1 K1 A1
  have cD := D2.out.cell (i := 0) rfl
  have cX := X2.out.cell (i := 1) rfl
  have ml := ML.out
  clear ML
  go_upto_region 4 with fail
  clear cD cX ml
  have V3 := Blk.new W2 46 [.int .i64 (kd : Nat), .int .i64 0, .int .i64 0]
  have R3 := R2.out.alloc (.cells #[.int .i64 (kd : Nat), .int .i64 0, .int .i64 0] 46)
  have D3 := D2.out.alloc (.cells #[.int .i64 (kd : Nat), .int .i64 0, .int .i64 0] 46)
  have X3 := X2.out.alloc (.cells #[.int .i64 (kd : Nat), .int .i64 0, .int .i64 0] 46)
  have K3 := K2.out.alloc (.cells #[.int .i64 (kd : Nat), .int .i64 0, .int .i64 0] 46)
  have A3 := A2.out.kept (E := fun _ => False) ((Kp.refl _ _).alloc (.cells #[.int .i64 (kd : Nat), .int .i64 0, .int .i64 0] 46)) (fun _ h => h.elim)
  have hs3 : W2.heap.size < (W2.alloc (.cells #[.int .i64 (kd : Nat), .int .i64 0, .int .i64 0] 46)).heap.size := by simp
  generalize W2.alloc (.cells #[.int .i64 (kd : Nat), .int .i64 0, .int .i64 0] 46) = W3 at *
  generalize W2.heap.size = vb at *
  have R3 := Lib.hid R3
  have D3 := Lib.hid D3
  have X3 := Lib.hid X3
  have V3 := Lib.hid V3
  have K3 := Lib.hid K3; have A3 := Lib.hid A3
  clear R2 D2 X2 K2 A2
  go_wp2_with fail
  refine (numbers1_any bp L r1 W3.heap.size vb 46 92 [.int .i64 (kd : Nat), .int .i64 0, .int .i64 0] _ (A3.out.kept (E := fun _ => False) ((Kp.refl _ _).alloc _) (fun _ h => h.elim)) (V3.out.alloc _) (by omega) (by have := V3.out.lt; omega) (by have := A3.out.lt; omega) 1 (by simp) (Blk.new W3 _ [.pointer (some ⟨vb, 1, none⟩)])).mono ?_
  rintro e W4 (⟨st, r4, h4, ⟨rfl, v4⟩, a4, k4⟩ | ⟨r4, h4, rfl, k4⟩)
  rotate_left
  · have KK := Lib.hid ((K3.out.alloc _).call k4 (fun k hk => hk.elim (fun h => Or.inl h) (fun h => Or.inr (by have : k = vb := h; omega)))); have HB := Lib.hid h4
    clear h4 k4
    unfold failP
    go_wp2
    refine ⟨rfl, gives_bad _ ?_ KK.out⟩
    show markP ts = _
    unfold markP
    rw [then_of H1.out, then_bad HB.out]
  have R4 := Lib.hid ((R3.out.alloc (.cells #[.pointer (some ⟨vb, 1, none⟩)] 92)).kept k4 (fun h => h.elim (fun h => by have : w.heap.size = bp := h; omega) (fun h => by have : w.heap.size = vb := h; omega)))
  have D4 := Lib.hid ((D3.out.alloc (.cells #[.pointer (some ⟨vb, 1, none⟩)] 92)).kept k4 (fun h => h.elim (fun h => by have : (w.heap.size + 2) = bp := h; omega) (fun h => by have : (w.heap.size + 2) = vb := h; omega)))
  have X4 := Lib.hid ((X3.out.alloc (.cells #[.pointer (some ⟨vb, 1, none⟩)] 92)).kept k4 (fun h => h.elim (fun h => by have : xb = bp := h; omega) (fun h => by have : xb = vb := h; omega)))
  have V4 : Hid (Blk W4 vb 46 [.int .i64 (kd : Nat), .int .i64 (st : Nat), .int .i64 0]) := Lib.hid v4
  have K4 := Lib.hid ((K3.out.alloc _).call k4 (fun k hk => hk.elim (fun h => Or.inl h) (fun h => Or.inr (by have : k = vb := h; omega)))); have A4 := Lib.hid a4; have H4 := Lib.hid h4
  have hs4 : W3.heap.size ≤ W4.heap.size := Nat.le_trans (by simp) k4.size
  clear h4 a4 k4 v4  R3 D3 X3 V3 K3 A3
  have cV := V4.out.cell (i := 0) rfl
  by_cases h4 : kd = 4
  · have e4 : (((kd : Nat) : Int) == 4) = true := by simp [h4]
    have HQ := Lib.hid h4
    clear h4
    go_wp2_with fail
    refine (word_any bp L r4 wOf _ A4.out).mono ?_
    rintro e W5 (⟨x3, r5, h5, rfl, a5, k5⟩ | ⟨r5, h5, rfl, k5⟩)
    rotate_left
    · have KK := Lib.hid (K4.out.trans k5); have HB := Lib.hid h5
      clear h5 k5
      unfold failP
      go_wp2
      refine ⟨rfl, gives_bad _ ?_ KK.out⟩
      show markP ts = _
      unfold markP
      rw [then_of H1.out, then_of H4.out, HKD.out, if_pos HQ.out, then_bad HB.out]
    have R5 := Lib.hid (R4.out.kept k5 (fun h => by have : w.heap.size = bp := h; omega))
    have D5 := Lib.hid (D4.out.kept k5 (fun h => by have : (w.heap.size + 2) = bp := h; omega))
    have X5 := Lib.hid (X4.out.kept k5 (fun h => by have : xb = bp := h; omega))
    have V5 := Lib.hid (V4.out.kept k5 (fun h => by have : vb = bp := h; omega))
    have K5 := Lib.hid (K4.out.trans k5); have A5 := Lib.hid a5; have H5 := Lib.hid h5; have hs5 := k5.size
    clear h5 a5 k5  R4 D4 X4 V4 K4 A4
    go_wp2_with fail
    refine (numbers1_any bp L r5 W5.heap.size vb 46 92 [.int .i64 (kd : Nat), .int .i64 (st : Nat), .int .i64 0] _ (A5.out.kept (E := fun _ => False) ((Kp.refl _ _).alloc _) (fun _ h => h.elim)) (V5.out.alloc _) (by omega) (by have := V5.out.lt; omega) (by have := A5.out.lt; omega) 2 (by simp) (Blk.new W5 _ [.pointer (some ⟨vb, 2, none⟩)])).mono ?_
    rintro e W6 (⟨ot, r6, h6, ⟨rfl, v6⟩, a6, k6⟩ | ⟨r6, h6, rfl, k6⟩)
    rotate_left
    · have KK := Lib.hid ((K5.out.alloc _).call k6 (fun k hk => hk.elim (fun h => Or.inl h) (fun h => Or.inr (by have : k = vb := h; omega)))); have HB := Lib.hid h6
      clear h6 k6
      unfold failP
      go_wp2
      refine ⟨rfl, gives_bad _ ?_ KK.out⟩
      show markP ts = _
      unfold markP
      rw [then_of H1.out, then_of H4.out, HKD.out, if_pos HQ.out, then_of H5.out, then_bad HB.out]
    have R6 := Lib.hid ((R5.out.alloc (.cells #[.pointer (some ⟨vb, 2, none⟩)] 92)).kept k6 (fun h => h.elim (fun h => by have : w.heap.size = bp := h; omega) (fun h => by have : w.heap.size = vb := h; omega)))
    have D6 := Lib.hid ((D5.out.alloc (.cells #[.pointer (some ⟨vb, 2, none⟩)] 92)).kept k6 (fun h => h.elim (fun h => by have : (w.heap.size + 2) = bp := h; omega) (fun h => by have : (w.heap.size + 2) = vb := h; omega)))
    have X6 := Lib.hid ((X5.out.alloc (.cells #[.pointer (some ⟨vb, 2, none⟩)] 92)).kept k6 (fun h => h.elim (fun h => by have : xb = bp := h; omega) (fun h => by have : xb = vb := h; omega)))
    have V6 : Hid (Blk W6 vb 46 [.int .i64 (kd : Nat), .int .i64 (st : Nat), .int .i64 (ot : Nat)]) := Lib.hid v6
    have K6 := Lib.hid ((K5.out.alloc _).call k6 (fun k hk => hk.elim (fun h => Or.inl h) (fun h => Or.inr (by have : k = vb := h; omega)))); have A6 := Lib.hid a6; have H6 := Lib.hid h6
    have hs6 : W5.heap.size ≤ W6.heap.size := Nat.le_trans (by simp) k6.size
    clear h6 a6 k6 v6  R5 D5 X5 V5 K5 A5
    have x0 := V6.out.cell (i := 0) rfl
    have x1 := V6.out.cell (i := 1) rfl
    have x2 := V6.out.cell (i := 2) rfl
    have z0 := R6.out.cell (i := 0) rfl
    have z1 := R6.out.cell (i := 1) rfl
    have z2 := R6.out.cell (i := 2) rfl
    have zf := R6.out.free
    go_wp2
    rw [setCells_three]
    refine bodyPost_ret (results_cell_mid rfl _ _ (w.heap.size) [.int .i64 (kd : Nat), .int .i64 (st : Nat), .int .i64 (ot : Nat)] _ rfl (R6.out.whole (vs := [.int .i64 (kd : Nat), .int .i64 (st : Nat), .int .i64 (ot : Nat)]) rfl).range Tryz.underlying46 rfl (by kernel_rfl)) rfl ?_
    refine gives_ok (⟨4, st, ot⟩) r6 ?_ ?_ (A6.out.result (by omega) _) (K6.out.result (by omega) _)
    · show markP ts = _
      unfold markP
      rw [then_of H1.out, then_of H4.out, HKD.out, if_pos HQ.out, then_of H5.out, then_of H6.out]
      rfl
    · refine ⟨_, rfl, ?_⟩
      show _ = markCl _
      rw [HQ.out]; rfl
  · have e4 : (((kd : Nat) : Int) == 4) = false := by simp; omega
    have HQ := Lib.hid h4
    clear h4
    have x0 := V4.out.cell (i := 0) rfl
    have x1 := V4.out.cell (i := 1) rfl
    have x2 := V4.out.cell (i := 2) rfl
    have z0 := R4.out.cell (i := 0) rfl
    have z1 := R4.out.cell (i := 1) rfl
    have z2 := R4.out.cell (i := 2) rfl
    have zf := R4.out.free
    go_wp2
    rw [setCells_three]
    refine bodyPost_ret (results_cell_mid rfl _ _ (w.heap.size) [.int .i64 (kd : Nat), .int .i64 (st : Nat), .int .i64 0] _ rfl (R4.out.whole (vs := [.int .i64 (kd : Nat), .int .i64 (st : Nat), .int .i64 0]) rfl).range Tryz.underlying46 rfl (by kernel_rfl)) rfl ?_
    refine gives_ok (⟨kd, st, 0⟩) r4 ?_ ?_ (A4.out.result (by omega) _) (K4.out.result (by omega) _)
    · show markP ts = _
      unfold markP
      rw [then_of H1.out, then_of H4.out, HKD.out, if_neg HQ.out]
      rfl
    · exact ⟨_, rfl, rfl⟩
end Go.Proofs.YtlfjdohjfmfcdaaGreatDoor
