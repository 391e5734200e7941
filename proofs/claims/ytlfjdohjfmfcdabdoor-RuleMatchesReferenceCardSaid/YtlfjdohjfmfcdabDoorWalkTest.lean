/-
  The walk of a test.
-/
import Derived.Test.YtlfjdohjfmfcdabDoorWalkHead
import Derived.Test.YtlfjdohjfmfcdabDoorRound
namespace Go.Proofs.YtlfjdohjfmfcdabDoor
open Go.RowKit Go.Sort Go.Shelf Foyer.Rule Foyer.Round

def opsL : List (List UInt8 × Value) := [(wEq, .int .i64 1), (wNe, .int .i64 2), (wLt, .int .i64 3), (wLe, .int .i64 4), (wGt, .int .i64 5), (wGe, .int .i64 6)]
theorem ops_at (s : List UInt8) : (entryAt s opsL).getD (.int .i64 0) = .int .i64 (opOf s : Nat) := by
  unfold opsL opOf
  repeat' (unfold entryAt; split; rfl)
  rfl
theorem ops_look (w : World) {b c : Nat} (h : MapB w b opsL c) (s : List UInt8) : (Instr.lookup 119 (.map (some b)) (.string ⟨s.toArray⟩) false).run Tryd.prog w = .ok (.int .i64 (opOf s : Nat)) w := by
  rw [map_lookup Tryd.underlying119 Tryd.underlying9 w (z := .int .i64 0) (by kernel_rfl) h, ops_at]
theorem testO_ent (args : Array Value) (w : World) : (callFunc 72 args).run Tryd.prog w = .ok (.enter 72 args) w := enters_of Tryd.func72 (by kernel_rfl) rfl args w
theorem testV_ent (args : Array Value) (w : World) : (callFunc 73 args).run Tryd.prog w = .ok (.enter 73 args) w := enters_of Tryd.func73 (by kernel_rfl) rfl args w
set_option maxRecDepth 100000 in
theorem testV_asks (E : Nat → Prop) (w : World) : Asks 73 #[] (fun t => decide (t.kind ≠ 3)) E w := by
  intro w1 t k
  show Calls Tryd.prog 73 #[.agg #[.int .i64 (t.kind : Nat), .string ⟨t.text.toArray⟩, .int .i64 (t.val : Nat), .int .i64 (t.pos : Nat)]] w1 _
  have e : (((t.kind : Nat) : Int) != 3) = decide (t.kind ≠ 3) := by
    by_cases h : t.kind = 3
    · simp [h]
    · have : ¬ ((t.kind : Nat) : Int) = 3 := by omega
      simp [h, this]
  have HE := Lib.hid e
  clear k e
  go_enter Tryd.func73, Tryd.ntmps73
  go_wp2
  refine bodyPost_ret (results_tmp rfl _ _ _) rfl ⟨?_, (Kp.refl _ _).alloc _⟩
  show Ending.returned (.bool (((t.kind : Nat) : Int) != 3)) = _
  rw [HE.out]
set_option maxRecDepth 100000 in
theorem testO_asks (kb mb c : Nat) (E : Nat → Prop) (w : World) (hk : Blk w kb 119 [.map (some mb)]) (hm : MapB w mb opsL c) (h1 : ¬ E kb) (h2 : ¬ E mb) : Asks 72 #[.pointer (some ⟨kb, 0, none⟩)] (fun t => decide (opOf t.text ≠ 0)) E w := by
  intro w1 t k
  have hB := (hk.kept k h1).alloc (.cells #[.int .i64 (t.kind : Nat), .string ⟨t.text.toArray⟩, .int .i64 (t.val : Nat), .int .i64 (t.pos : Nat)] 54)
  have hM := (hm.kept k h2).kept (E := fun _ => False) ((Kp.refl _ _).alloc (.cells #[.int .i64 (t.kind : Nat), .string ⟨t.text.toArray⟩, .int .i64 (t.val : Nat), .int .i64 (t.pos : Nat)] 54)) (fun h => h)
  have h0 := hB.cell (i := 0) rfl
  have hl := ops_look _ hM t.text
  have e : (((opOf t.text : Nat) : Int) != 0) = decide (opOf t.text ≠ 0) := by
    by_cases h : opOf t.text = 0 <;> simp [h]
  show Calls Tryd.prog 72 #[.agg #[.int .i64 (t.kind : Nat), .string ⟨t.text.toArray⟩, .int .i64 (t.val : Nat), .int .i64 (t.pos : Nat)], .pointer (some ⟨kb, 0, none⟩)] w1 _
  have HE := Lib.hid e
  clear hB hM k hk hm h1 h2 e
  obtain ⟨m, hmk⟩ : ∃ m, opOf t.text = m := ⟨_, rfl⟩
  rw [hmk] at HE hl
  have HMK := Lib.hid hmk
  clear hmk
  go_enter Tryd.func72, Tryd.ntmps72
  go_wp2
  refine bodyPost_ret (results_tmp rfl _ _ _) rfl ⟨?_, (Kp.refl _ _).alloc _⟩
  show Ending.returned (.bool (((m : Nat) : Int) != 0)) = Ending.returned (.bool (decide (opOf t.text ≠ 0)))
  rw [HMK.out, HE.out]
def AggK {α : Type} (K : Kind α) (n : Nat) (a : α) (e : Ending) (w' : World) : Prop := KindV K n a e w'

set_option linter.unusedSimpArgs false in
set_option maxRecDepth 100000 in
set_option maxHeartbeats 4000000 in
theorem test_any (bp L : Nat) (ts : List TokP) (w : World) (h : At w bp L ts) : Calls Tryd.prog 63 #[.pointer (some ⟨bp, 0, none⟩)] w (Gives bp L (onlyB bp) w (testP ts) (KindV testK w.heap.size)) := by
  have hlt := h.lt
  have hmf := makes_func
  have HA := Lib.hid h
  obtain ⟨w1, hw1⟩ : ∃ w1, w.alloc (.cells #[.string ⟨#[]⟩, .int .i64 0, .string ⟨#[]⟩, .int .i64 0, .int .i64 0] 32) = w1 := ⟨_, rfl⟩
  have hsz : w1.heap.size = w.heap.size + 1 := by rw [← hw1]; simp
  have i0 : (Instr.mapUpdate 119 (.map (some (w.heap.size + 1))) (.string ⟨#[61]⟩) (.int .i64 1)).run Tryd.prog (w1.alloc (.map #[] 0)) = .ok () (w1.alloc (.map (entriesOf 0 [(wEq, .int .i64 1)]).toArray 1)) :=
    map_insert Tryd.underlying119 Tryd.underlying9 w1 [] wEq (.int .i64 1) rfl 0 rfl _ hsz.symm
  have i1 : (Instr.mapUpdate 119 (.map (some (w.heap.size + 1))) (.string ⟨#[33, 61]⟩) (.int .i64 2)).run Tryd.prog (w1.alloc (.map (entriesOf 0 [(wEq, .int .i64 1)]).toArray 1)) = .ok () (w1.alloc (.map (entriesOf 0 [(wEq, .int .i64 1), (wNe, .int .i64 2)]).toArray 2)) :=
    map_insert Tryd.underlying119 Tryd.underlying9 w1 [(wEq, .int .i64 1)] wNe (.int .i64 2) rfl 1 rfl _ hsz.symm
  have i2 : (Instr.mapUpdate 119 (.map (some (w.heap.size + 1))) (.string ⟨#[60]⟩) (.int .i64 3)).run Tryd.prog (w1.alloc (.map (entriesOf 0 [(wEq, .int .i64 1), (wNe, .int .i64 2)]).toArray 2)) = .ok () (w1.alloc (.map (entriesOf 0 [(wEq, .int .i64 1), (wNe, .int .i64 2), (wLt, .int .i64 3)]).toArray 3)) :=
    map_insert Tryd.underlying119 Tryd.underlying9 w1 [(wEq, .int .i64 1), (wNe, .int .i64 2)] wLt (.int .i64 3) rfl 2 rfl _ hsz.symm
  have i3 : (Instr.mapUpdate 119 (.map (some (w.heap.size + 1))) (.string ⟨#[60, 61]⟩) (.int .i64 4)).run Tryd.prog (w1.alloc (.map (entriesOf 0 [(wEq, .int .i64 1), (wNe, .int .i64 2), (wLt, .int .i64 3)]).toArray 3)) = .ok () (w1.alloc (.map (entriesOf 0 [(wEq, .int .i64 1), (wNe, .int .i64 2), (wLt, .int .i64 3), (wLe, .int .i64 4)]).toArray 4)) :=
    map_insert Tryd.underlying119 Tryd.underlying9 w1 [(wEq, .int .i64 1), (wNe, .int .i64 2), (wLt, .int .i64 3)] wLe (.int .i64 4) rfl 3 rfl _ hsz.symm
  have i4 : (Instr.mapUpdate 119 (.map (some (w.heap.size + 1))) (.string ⟨#[62]⟩) (.int .i64 5)).run Tryd.prog (w1.alloc (.map (entriesOf 0 [(wEq, .int .i64 1), (wNe, .int .i64 2), (wLt, .int .i64 3), (wLe, .int .i64 4)]).toArray 4)) = .ok () (w1.alloc (.map (entriesOf 0 [(wEq, .int .i64 1), (wNe, .int .i64 2), (wLt, .int .i64 3), (wLe, .int .i64 4), (wGt, .int .i64 5)]).toArray 5)) :=
    map_insert Tryd.underlying119 Tryd.underlying9 w1 [(wEq, .int .i64 1), (wNe, .int .i64 2), (wLt, .int .i64 3), (wLe, .int .i64 4)] wGt (.int .i64 5) rfl 4 rfl _ hsz.symm
  have i5 : (Instr.mapUpdate 119 (.map (some (w.heap.size + 1))) (.string ⟨#[62, 61]⟩) (.int .i64 6)).run Tryd.prog (w1.alloc (.map (entriesOf 0 [(wEq, .int .i64 1), (wNe, .int .i64 2), (wLt, .int .i64 3), (wLe, .int .i64 4), (wGt, .int .i64 5)]).toArray 5)) = .ok () (w1.alloc (.map (entriesOf 0 opsL).toArray 6)) :=
    map_insert Tryd.underlying119 Tryd.underlying9 w1 [(wEq, .int .i64 1), (wNe, .int .i64 2), (wLt, .int .i64 3), (wLe, .int .i64 4), (wGt, .int .i64 5)] wGe (.int .i64 6) rfl 5 rfl _ hsz.symm
  clear h
  go_enter Tryd.func63, Tryd.ntmps63
  have hmm : (Instr.makeMap 119 none).run Tryd.prog w1 = .ok (.map (some w1.heap.size)) (w1.alloc (.map #[] 0)) := run_makeMap _ _
  have R0 := ((Blk.new w 32 [.string ⟨#[]⟩, .int .i64 0, .string ⟨#[]⟩, .int .i64 0, .int .i64 0]).alloc (.map (entriesOf 0 opsL).toArray 6)).alloc (.cells #[.map (some (w.heap.size + 1))] 119)
  have D0 := Blk.new (w1.alloc (.map (entriesOf 0 opsL).toArray 6)) 119 [.map (some (w.heap.size + 1))]
  have M0 : MapB ((w1.alloc (.map (entriesOf 0 opsL).toArray 6)).alloc (.cells #[.map (some (w.heap.size + 1))] 119)) (w.heap.size + 1) opsL 6 := by
    have : MapB (w1.alloc (.map (entriesOf 0 opsL).toArray 6)) (w.heap.size + 1) opsL 6 := by rw [← hsz]; exact (MapKept.heap_alloc w1 _).1
    exact this.kept (E := fun _ => False) ((Kp.refl _ _).alloc _) (fun h => h)
  have K0 := (((Kp.refl (onlyB bp) w).alloc (.cells #[.string ⟨#[]⟩, .int .i64 0, .string ⟨#[]⟩, .int .i64 0, .int .i64 0] 32)).alloc (.map (entriesOf 0 opsL).toArray 6)).alloc (.cells #[.map (some (w.heap.size + 1))] 119)
  have A0 := HA.out.kept (E := fun _ => False) ((((Kp.refl _ w).alloc (.cells #[.string ⟨#[]⟩, .int .i64 0, .string ⟨#[]⟩, .int .i64 0, .int .i64 0] 32)).alloc (.map (entriesOf 0 opsL).toArray 6)).alloc (.cells #[.map (some (w.heap.size + 1))] 119)) (fun _ h => h.elim)
  rw [hw1] at R0 K0 A0
  have hs0 : w.heap.size + 3 ≤ ((w1.alloc (.map (entriesOf 0 opsL).toArray 6)).alloc (.cells #[.map (some (w.heap.size + 1))] 119)).heap.size := by simp [hsz]
  have hdn : (w1.alloc (.map (entriesOf 0 opsL).toArray 6)).heap.size = w.heap.size + 2 := by simp [hsz]
  rw [hdn] at D0
  clear HA
  go_upto_region 2 with fail
  clear i0 i1 i2 i3 i4 i5 hmm hdn
  generalize (w1.alloc (.map (entriesOf 0 opsL).toArray 6)).alloc (.cells #[.map (some (w.heap.size + 1))] 119) = W0 at *
  clear hsz hw1 w1
  have R0 := Lib.hid R0; have K0 := Lib.hid K0; have A0 := Lib.hid A0; have D0 := Lib.hid D0; have M0 := Lib.hid M0
  go_wp2_with fail
  refine (name_any bp L ts _ A0.out).mono ?_
  rintro e W1 (⟨a, r1, h1, rfl, a1, k1⟩ | ⟨c1, r1, h1, rfl, k1⟩)
  rotate_left
  · have KK := Lib.hid (K0.out.callB k1 (rfl)); have HB := Lib.hid h1
    clear h1 k1
    unfold failP
    go_wp2
    refine ⟨rfl, gives_bad _ _ ?_ KK.out⟩
    show testP ts = _
    unfold testP
    rw [then_bad HB.out]
  have R1 := Lib.hid (R0.out.kept k1 (fun h => by have : w.heap.size = bp := h; omega))
  have D1 := Lib.hid (D0.out.kept k1 (fun h => by have : (w.heap.size + 2) = bp := h; omega))
  have M1 := Lib.hid (M0.out.kept k1 (fun h => by have : w.heap.size + 1 = bp := h; omega))
  have K1 := Lib.hid (K0.out.callB k1 (rfl)); have A1 := Lib.hid a1; have H1 := Lib.hid h1; have hs1 := k1.size
  clear h1 a1 k1  R0 D0 M0 K0 A0
  unfold tkV
  go_upto_region 3 with fail
  have X2 := Blk.new W1 54 [.int .i64 (a.kind : Nat), .string ⟨a.text.toArray⟩, .int .i64 (a.val : Nat), .int .i64 (a.pos : Nat)]
  have R2 := R1.out.alloc (.cells #[.int .i64 (a.kind : Nat), .string ⟨a.text.toArray⟩, .int .i64 (a.val : Nat), .int .i64 (a.pos : Nat)] 54)
  have D2 := D1.out.alloc (.cells #[.int .i64 (a.kind : Nat), .string ⟨a.text.toArray⟩, .int .i64 (a.val : Nat), .int .i64 (a.pos : Nat)] 54)
  have M2 := M1.out.kept (E := fun _ => False) ((Kp.refl _ _).alloc (.cells #[.int .i64 (a.kind : Nat), .string ⟨a.text.toArray⟩, .int .i64 (a.val : Nat), .int .i64 (a.pos : Nat)] 54)) (fun h => h)
  have K2 := K1.out.alloc (.cells #[.int .i64 (a.kind : Nat), .string ⟨a.text.toArray⟩, .int .i64 (a.val : Nat), .int .i64 (a.pos : Nat)] 54)
  have A2 := A1.out.kept (E := fun _ => False) ((Kp.refl _ _).alloc (.cells #[.int .i64 (a.kind : Nat), .string ⟨a.text.toArray⟩, .int .i64 (a.val : Nat), .int .i64 (a.pos : Nat)] 54)) (fun _ h => h.elim)
  have hs2 : W1.heap.size < (W1.alloc (.cells #[.int .i64 (a.kind : Nat), .string ⟨a.text.toArray⟩, .int .i64 (a.val : Nat), .int .i64 (a.pos : Nat)] 54)).heap.size := by simp
  generalize W1.alloc (.cells #[.int .i64 (a.kind : Nat), .string ⟨a.text.toArray⟩, .int .i64 (a.val : Nat), .int .i64 (a.pos : Nat)] 54) = W2 at *
  generalize W1.heap.size = xb at *
  have R2 := Lib.hid R2
  have D2 := Lib.hid D2
  have X2 := Lib.hid X2
  have M2 := Lib.hid M2
  have K2 := Lib.hid K2; have A2 := Lib.hid A2
  clear R1 D1 M1 K1 A1
  go_wp2_with fail
  refine (take_any bp L r1 72 testO_ent #[.pointer (some ⟨w.heap.size + 2, 0, none⟩)] (fun t => decide (opOf t.text ≠ 0)) _ A2.out (testO_asks (w.heap.size + 2) (w.heap.size + 1) 6 _ _ D2.out M2.out (fun h => h) (fun h => h))).mono ?_
  rintro e W3 (⟨o, r3, h3, rfl, a3, k3⟩ | ⟨c3, r3, h3, rfl, k3⟩)
  rotate_left
  · have KK := Lib.hid (K2.out.callB k3 (rfl)); have HB := Lib.hid h3
    clear h3 k3
    unfold failP
    go_wp2
    refine ⟨rfl, gives_bad _ _ ?_ KK.out⟩
    show testP ts = _
    unfold testP
    rw [then_of H1.out, then_bad HB.out]
  have R3 := Lib.hid (R2.out.kept k3 (fun h => by have : w.heap.size = bp := h; omega))
  have D3 := Lib.hid (D2.out.kept k3 (fun h => by have : (w.heap.size + 2) = bp := h; omega))
  have X3 := Lib.hid (X2.out.kept k3 (fun h => by have : xb = bp := h; omega))
  have M3 := Lib.hid (M2.out.kept k3 (fun h => by have : w.heap.size + 1 = bp := h; omega))
  have K3 := Lib.hid (K2.out.callB k3 (rfl)); have A3 := Lib.hid a3; have H3 := Lib.hid h3; have hs3 := k3.size
  clear h3 a3 k3  R2 D2 X2 M2 K2 A2
  unfold tkV
  go_upto_region 4 with fail
  have Y4 := Blk.new W3 54 [.int .i64 (o.kind : Nat), .string ⟨o.text.toArray⟩, .int .i64 (o.val : Nat), .int .i64 (o.pos : Nat)]
  have R4 := R3.out.alloc (.cells #[.int .i64 (o.kind : Nat), .string ⟨o.text.toArray⟩, .int .i64 (o.val : Nat), .int .i64 (o.pos : Nat)] 54)
  have D4 := D3.out.alloc (.cells #[.int .i64 (o.kind : Nat), .string ⟨o.text.toArray⟩, .int .i64 (o.val : Nat), .int .i64 (o.pos : Nat)] 54)
  have X4 := X3.out.alloc (.cells #[.int .i64 (o.kind : Nat), .string ⟨o.text.toArray⟩, .int .i64 (o.val : Nat), .int .i64 (o.pos : Nat)] 54)
  have M4 := M3.out.kept (E := fun _ => False) ((Kp.refl _ _).alloc (.cells #[.int .i64 (o.kind : Nat), .string ⟨o.text.toArray⟩, .int .i64 (o.val : Nat), .int .i64 (o.pos : Nat)] 54)) (fun h => h)
  have K4 := K3.out.alloc (.cells #[.int .i64 (o.kind : Nat), .string ⟨o.text.toArray⟩, .int .i64 (o.val : Nat), .int .i64 (o.pos : Nat)] 54)
  have A4 := A3.out.kept (E := fun _ => False) ((Kp.refl _ _).alloc (.cells #[.int .i64 (o.kind : Nat), .string ⟨o.text.toArray⟩, .int .i64 (o.val : Nat), .int .i64 (o.pos : Nat)] 54)) (fun _ h => h.elim)
  have hs4 : W3.heap.size < (W3.alloc (.cells #[.int .i64 (o.kind : Nat), .string ⟨o.text.toArray⟩, .int .i64 (o.val : Nat), .int .i64 (o.pos : Nat)] 54)).heap.size := by simp
  generalize W3.alloc (.cells #[.int .i64 (o.kind : Nat), .string ⟨o.text.toArray⟩, .int .i64 (o.val : Nat), .int .i64 (o.pos : Nat)] 54) = W4 at *
  generalize W3.heap.size = yb at *
  have R4 := Lib.hid R4
  have D4 := Lib.hid D4
  have X4 := Lib.hid X4
  have Y4 := Lib.hid Y4
  have M4 := Lib.hid M4
  have K4 := Lib.hid K4; have A4 := Lib.hid A4
  clear R3 D3 X3 M3 K3 A3
  have ml := ops_look _ M4.out o.text
  obtain ⟨kd, hkd⟩ : ∃ kd, opOf o.text = kd := ⟨_, rfl⟩
  rw [hkd] at ml
  have HKD := Lib.hid hkd
  clear hkd M4
  have cX := X4.out.cell (i := 1) rfl
  have cX3 := X4.out.cell (i := 3) rfl
  have cD := D4.out.cell (i := 0) rfl
  have cY := Y4.out.cell (i := 1) rfl
  go_upto_region 5 with fail
  clear cX cX3 cD cY ml
  have V5 := Blk.new W4 32 [.string ⟨a.text.toArray⟩, .int .i64 (kd : Nat), .string ⟨#[]⟩, .int .i64 0, .int .i64 (a.pos : Nat)]
  have R5 := R4.out.alloc (.cells #[.string ⟨a.text.toArray⟩, .int .i64 (kd : Nat), .string ⟨#[]⟩, .int .i64 0, .int .i64 (a.pos : Nat)] 32)
  have D5 := D4.out.alloc (.cells #[.string ⟨a.text.toArray⟩, .int .i64 (kd : Nat), .string ⟨#[]⟩, .int .i64 0, .int .i64 (a.pos : Nat)] 32)
  have X5 := X4.out.alloc (.cells #[.string ⟨a.text.toArray⟩, .int .i64 (kd : Nat), .string ⟨#[]⟩, .int .i64 0, .int .i64 (a.pos : Nat)] 32)
  have Y5 := Y4.out.alloc (.cells #[.string ⟨a.text.toArray⟩, .int .i64 (kd : Nat), .string ⟨#[]⟩, .int .i64 0, .int .i64 (a.pos : Nat)] 32)
  have K5 := K4.out.alloc (.cells #[.string ⟨a.text.toArray⟩, .int .i64 (kd : Nat), .string ⟨#[]⟩, .int .i64 0, .int .i64 (a.pos : Nat)] 32)
  have A5 := A4.out.kept (E := fun _ => False) ((Kp.refl _ _).alloc (.cells #[.string ⟨a.text.toArray⟩, .int .i64 (kd : Nat), .string ⟨#[]⟩, .int .i64 0, .int .i64 (a.pos : Nat)] 32)) (fun _ h => h.elim)
  have hs5 : W4.heap.size < (W4.alloc (.cells #[.string ⟨a.text.toArray⟩, .int .i64 (kd : Nat), .string ⟨#[]⟩, .int .i64 0, .int .i64 (a.pos : Nat)] 32)).heap.size := by simp
  generalize W4.alloc (.cells #[.string ⟨a.text.toArray⟩, .int .i64 (kd : Nat), .string ⟨#[]⟩, .int .i64 0, .int .i64 (a.pos : Nat)] 32) = W5 at *
  generalize W4.heap.size = vb at *
  have R5 := Lib.hid R5
  have D5 := Lib.hid D5
  have X5 := Lib.hid X5
  have Y5 := Lib.hid Y5
  have V5 := Lib.hid V5
  have K5 := Lib.hid K5; have A5 := Lib.hid A5
  clear R4 D4 X4 Y4  K4 A4
  have HSV := Lib.hid A5.out.short
  go_wp2_with fail
  refine (take_any bp L r3 73 testV_ent #[] (fun t => decide (t.kind ≠ 3)) _ A5.out (testV_asks _ _)).mono ?_
  rintro e W6 (⟨v, r6, h6, rfl, a6, k6⟩ | ⟨c6, r6, h6, rfl, k6⟩)
  rotate_left
  · have KK := Lib.hid (K5.out.callB k6 (rfl)); have HB := Lib.hid h6
    clear h6 k6
    unfold failP
    go_wp2
    refine ⟨rfl, gives_bad _ _ ?_ KK.out⟩
    show testP ts = _
    unfold testP
    rw [then_of H1.out, then_of H3.out, then_bad HB.out]
  have R6 := Lib.hid (R5.out.kept k6 (fun h => by have : w.heap.size = bp := h; omega))
  have D6 := Lib.hid (D5.out.kept k6 (fun h => by have : (w.heap.size + 2) = bp := h; omega))
  have X6 := Lib.hid (X5.out.kept k6 (fun h => by have : xb = bp := h; omega))
  have Y6 := Lib.hid (Y5.out.kept k6 (fun h => by have : yb = bp := h; omega))
  have V6 := Lib.hid (V5.out.kept k6 (fun h => by have : vb = bp := h; omega))
  have K6 := Lib.hid (K5.out.callB k6 (rfl)); have A6 := Lib.hid a6; have H6 := Lib.hid h6; have hs6 := k6.size
  clear h6 a6 k6  R5 D5 X5 Y5 V5  K5 A5
  unfold tkV
  go_upto_region 6 with fail
  have Z7 := Blk.new W6 54 [.int .i64 (v.kind : Nat), .string ⟨v.text.toArray⟩, .int .i64 (v.val : Nat), .int .i64 (v.pos : Nat)]
  have R7 := R6.out.alloc (.cells #[.int .i64 (v.kind : Nat), .string ⟨v.text.toArray⟩, .int .i64 (v.val : Nat), .int .i64 (v.pos : Nat)] 54)
  have D7 := D6.out.alloc (.cells #[.int .i64 (v.kind : Nat), .string ⟨v.text.toArray⟩, .int .i64 (v.val : Nat), .int .i64 (v.pos : Nat)] 54)
  have X7 := X6.out.alloc (.cells #[.int .i64 (v.kind : Nat), .string ⟨v.text.toArray⟩, .int .i64 (v.val : Nat), .int .i64 (v.pos : Nat)] 54)
  have Y7 := Y6.out.alloc (.cells #[.int .i64 (v.kind : Nat), .string ⟨v.text.toArray⟩, .int .i64 (v.val : Nat), .int .i64 (v.pos : Nat)] 54)
  have V7 := V6.out.alloc (.cells #[.int .i64 (v.kind : Nat), .string ⟨v.text.toArray⟩, .int .i64 (v.val : Nat), .int .i64 (v.pos : Nat)] 54)
  have K7 := K6.out.alloc (.cells #[.int .i64 (v.kind : Nat), .string ⟨v.text.toArray⟩, .int .i64 (v.val : Nat), .int .i64 (v.pos : Nat)] 54)
  have A7 := A6.out.kept (E := fun _ => False) ((Kp.refl _ _).alloc (.cells #[.int .i64 (v.kind : Nat), .string ⟨v.text.toArray⟩, .int .i64 (v.val : Nat), .int .i64 (v.pos : Nat)] 54)) (fun _ h => h.elim)
  have hs7 : W6.heap.size < (W6.alloc (.cells #[.int .i64 (v.kind : Nat), .string ⟨v.text.toArray⟩, .int .i64 (v.val : Nat), .int .i64 (v.pos : Nat)] 54)).heap.size := by simp
  generalize W6.alloc (.cells #[.int .i64 (v.kind : Nat), .string ⟨v.text.toArray⟩, .int .i64 (v.val : Nat), .int .i64 (v.pos : Nat)] 54) = W7 at *
  generalize W6.heap.size = zb at *
  have R7 := Lib.hid R7
  have D7 := Lib.hid D7
  have X7 := Lib.hid X7
  have Y7 := Lib.hid Y7
  have V7 := Lib.hid V7
  have Z7 := Lib.hid Z7
  have K7 := Lib.hid K7; have A7 := Lib.hid A7
  clear R6 D6 X6 Y6 V6  K6 A6
  have hlv : v.text.length ≤ 1000000 := by
    obtain ⟨e, _⟩ := takeP_ok H6.out
    exact HSV.out v (by rw [e]; exact List.mem_cons_self)
  clear HSV
  have cZ0 := Z7.out.cell (i := 0) rfl
  by_cases hk2 : v.kind = 2
  · have e4 : (((v.kind : Nat) : Int) == 2) = true := by simp [hk2]
    have HQ := Lib.hid hk2
    clear hk2
    have cZ2 := Z7.out.cell (i := 2) rfl
    have cs0 := V7.out.cell (i := 3) rfl
    have cf := V7.out.free
    go_upto_region 8 with fail
    have R8 := (R7.out.other (p := ⟨vb, 3, none⟩) (by show ¬ vb = w.heap.size; omega) (.int .i64 (v.val : Nat)))
    have D8 := (D7.out.other (p := ⟨vb, 3, none⟩) (by show ¬ vb = (w.heap.size + 2); omega) (.int .i64 (v.val : Nat)))
    have X8 := (X7.out.other (p := ⟨vb, 3, none⟩) (by show ¬ vb = xb; omega) (.int .i64 (v.val : Nat)))
    have Y8 := (Y7.out.other (p := ⟨vb, 3, none⟩) (by show ¬ vb = yb; omega) (.int .i64 (v.val : Nat)))
    have V8 : Blk (W7.setCell ⟨vb, 3, none⟩ (.int .i64 (v.val : Nat))) vb 32 [.string ⟨a.text.toArray⟩, .int .i64 (kd : Nat), .string ⟨#[]⟩, .int .i64 (v.val : Nat), .int .i64 (a.pos : Nat)] := (V7.out.set 3 (.int .i64 (v.val : Nat)))
    have Z8 := (Z7.out.other (p := ⟨vb, 3, none⟩) (by show ¬ vb = zb; omega) (.int .i64 (v.val : Nat)))
    have K8 := (K7.out.setNew vb 3 (by omega) (.int .i64 (v.val : Nat)))
    have A8 := A7.out.kept (E := onlyB vb) ((Kp.refl (onlyB vb) W7).setOld vb 3 rfl (.int .i64 (v.val : Nat))) (fun k hk => by have : k = vb := hk; omega)
    have hs8 : W7.heap.size ≤ (W7.setCell ⟨vb, 3, none⟩ (.int .i64 (v.val : Nat))).heap.size := by simp
    generalize W7.setCell ⟨vb, 3, none⟩ (.int .i64 (v.val : Nat)) = W8 at *
    have R8 := Lib.hid R8
    have D8 := Lib.hid D8
    have X8 := Lib.hid X8
    have Y8 := Lib.hid Y8
    have V8 := Lib.hid V8
    have Z8 := Lib.hid Z8
    have K8 := Lib.hid K8; have A8 := Lib.hid A8
    clear cf cs0 R7 D7 X7 Y7 V7 Z7  K7 A7
    clear cZ0 cZ2 e4
    have x0 := V8.out.cell (i := 0) rfl
    have x1 := V8.out.cell (i := 1) rfl
    have x2 := V8.out.cell (i := 2) rfl
    have x3 := V8.out.cell (i := 3) rfl
    have x4 := V8.out.cell (i := 4) rfl
    have z0 := R8.out.cell (i := 0) rfl
    have z1 := R8.out.cell (i := 1) rfl
    have z2 := R8.out.cell (i := 2) rfl
    have z3 := R8.out.cell (i := 3) rfl
    have z4 := R8.out.cell (i := 4) rfl
    have zf := R8.out.free
    go_wp2
    rw [setCells_five]
    refine bodyPost_ret (results_cell_mid rfl _ _ w.heap.size [.string ⟨a.text.toArray⟩, .int .i64 (kd : Nat), .string ⟨#[]⟩, .int .i64 (v.val : Nat), .int .i64 (a.pos : Nat)] _ rfl (R8.out.whole (vs := [.string ⟨a.text.toArray⟩, .int .i64 (kd : Nat), .string ⟨#[]⟩, .int .i64 (v.val : Nat), .int .i64 (a.pos : Nat)]) rfl).range Tryd.underlying32 rfl (by kernel_rfl)) rfl ?_
    refine gives_ok (⟨a.text, kd, [], v.val, a.pos⟩) r6 ?_ ⟨_, rfl, rfl⟩ (A8.out.result (by omega) _) (K8.out.result (by omega) _)
    show testP ts = _
    unfold testP
    rw [then_of H1.out, then_of H3.out, then_of H6.out]
    unfold valueTail
    rw [if_pos HQ.out, HKD.out]
    rfl
  · have e4 : (((v.kind : Nat) : Int) == 2) = false := by simp; omega
    have HQ := Lib.hid hk2
    clear hk2
    have cZ1 := Z7.out.cell (i := 1) rfl
    have cs0 := V7.out.cell (i := 2) rfl
    have cf := V7.out.free
    go_upto_region 10 with fail
    have R8 := (R7.out.other (p := ⟨vb, 2, none⟩) (by show ¬ vb = w.heap.size; omega) (.string ⟨v.text.toArray⟩))
    have D8 := (D7.out.other (p := ⟨vb, 2, none⟩) (by show ¬ vb = (w.heap.size + 2); omega) (.string ⟨v.text.toArray⟩))
    have X8 := (X7.out.other (p := ⟨vb, 2, none⟩) (by show ¬ vb = xb; omega) (.string ⟨v.text.toArray⟩))
    have Y8 := (Y7.out.other (p := ⟨vb, 2, none⟩) (by show ¬ vb = yb; omega) (.string ⟨v.text.toArray⟩))
    have V8 : Blk (W7.setCell ⟨vb, 2, none⟩ (.string ⟨v.text.toArray⟩)) vb 32 [.string ⟨a.text.toArray⟩, .int .i64 (kd : Nat), .string ⟨v.text.toArray⟩, .int .i64 0, .int .i64 (a.pos : Nat)] := (V7.out.set 2 (.string ⟨v.text.toArray⟩))
    have Z8 := (Z7.out.other (p := ⟨vb, 2, none⟩) (by show ¬ vb = zb; omega) (.string ⟨v.text.toArray⟩))
    have K8 := (K7.out.setNew vb 2 (by omega) (.string ⟨v.text.toArray⟩))
    have A8 := A7.out.kept (E := onlyB vb) ((Kp.refl (onlyB vb) W7).setOld vb 2 rfl (.string ⟨v.text.toArray⟩)) (fun k hk => by have : k = vb := hk; omega)
    have hs8 : W7.heap.size ≤ (W7.setCell ⟨vb, 2, none⟩ (.string ⟨v.text.toArray⟩)).heap.size := by simp
    generalize W7.setCell ⟨vb, 2, none⟩ (.string ⟨v.text.toArray⟩) = W8 at *
    have R8 := Lib.hid R8
    have D8 := Lib.hid D8
    have X8 := Lib.hid X8
    have Y8 := Lib.hid Y8
    have V8 := Lib.hid V8
    have Z8 := Lib.hid Z8
    have K8 := Lib.hid K8; have A8 := Lib.hid A8
    clear cf cs0 R7 D7 X7 Y7 V7 Z7  K7 A7
    clear cZ0 cZ1 e4
    go_wp2_with fail
    refine (skip_any bp L r6 wDot _ A8.out).mono ?_
    rintro e W9 ⟨⟨r9, h9, rfl, a9⟩ | ⟨h9, rfl, a9⟩, k9⟩
    · have R9 := Lib.hid (R8.out.kept k9 (fun h => by have : w.heap.size = bp := h; omega))
      have D9 := Lib.hid (D8.out.kept k9 (fun h => by have : (w.heap.size + 2) = bp := h; omega))
      have X9 := Lib.hid (X8.out.kept k9 (fun h => by have : xb = bp := h; omega))
      have Y9 := Lib.hid (Y8.out.kept k9 (fun h => by have : yb = bp := h; omega))
      have V9 := Lib.hid (V8.out.kept k9 (fun h => by have : vb = bp := h; omega))
      have Z9 := Lib.hid (Z8.out.kept k9 (fun h => by have : zb = bp := h; omega))
      have K9 := Lib.hid (K8.out.callB k9 (rfl)); have A9 := Lib.hid a9; have H9 := Lib.hid h9; have hs9 := k9.size
      clear h9 a9 k9  R8 D8 X8 Y8 V8 Z8  K8 A8
      go_upto_region 11 with fail
      refine wp_region_any (by kernel_rfl) ?_
      refine any_of_held (S := fun W => Blk W vb 32 [.string ⟨a.text.toArray⟩, .int .i64 (kd : Nat), .string ⟨v.text.toArray⟩, .int .i64 0, .int .i64 (a.pos : Nat)]) (N := [8]) _ _ _ _ ?_
      have HSH9 := Lib.hid A9.out.short
      have hS0 : Blk W9.drew vb 32 [.string ⟨a.text.toArray⟩, .int .i64 (kd : Nat), .string ⟨v.text.toArray⟩, .int .i64 0, .int .i64 (a.pos : Nat)] := V9.out
      have R9d : Hid (Blk W9.drew w.heap.size 32 [.string ⟨#[]⟩, .int .i64 0, .string ⟨#[]⟩, .int .i64 0, .int .i64 0]) := Lib.hid R9.out
      have A9d : Hid (At W9.drew bp L r9) := Lib.hid (A9.out.kept (E := fun _ => False) (Kp.refl _ _).drew (fun _ h => h.elim))
      have K9d : Hid (Kp (onlyB bp) w W9.drew) := Lib.hid K9.out.drew
      have hsd : W9.drew.heap.size = W9.heap.size := rfl
      change held _ _ _ _ _ _ _ _ _ W9.drew
      generalize W9.drew = wd at *
      clear R9 V9 A9 K9 X9 Y9 Z9 D9
      refine held_take [1, 6, 7, 8] (i := 0) (v := .pointer (some ⟨vb, 2, none⟩)) rfl (by kernel_rfl) (fun _ _ _ h => h) (Or.inl ⟨by rfl, fun w' hS => by go_simp⟩) hS0 ?_
      try simp only [Act.put, List.setIfInBounds_toArray, List.set_cons_zero, List.set_cons_succ]
      refine held_take [6, 7, 8] (i := 1) (v := .string ⟨v.text.toArray⟩) rfl (by kernel_rfl) (fun _ _ _ h => h) (Or.inl ⟨by rfl, fun w' hS => by have hc := hS.cell (i := 2) rfl; go_simp⟩) hS0 ?_
      try simp only [Act.put, List.setIfInBounds_toArray, List.set_cons_zero, List.set_cons_succ]
      refine held_take [3, 4, 5, 6, 7, 8] (i := 2) (v := .pointer (some ⟨bp, 0, none⟩)) rfl (by kernel_rfl) (fun _ _ _ h => h) (Or.inl ⟨by rfl, fun w' hS => by go_simp⟩) hS0 ?_
      try simp only [Act.put, List.setIfInBounds_toArray, List.set_cons_zero, List.set_cons_succ]
      refine held_one (i := 3) rfl (by kernel_rfl) (fun K hK => ?_)
      go_simp
      refine (name_any bp L r9 _ A9d.out).mono ?_
      rintro e W10 (⟨x, r10, h10, rfl, a10, k10⟩ | ⟨c10, r10, h10, rfl, k10⟩)
      rotate_left
      · have KK := Lib.hid (K9d.out.callB k10 (rfl)); have HB := Lib.hid h10
        clear h10 k10
        unfold failP
        refine ⟨rfl, gives_bad _ _ ?_ KK.out⟩
        show testP ts = _
        unfold testP
        rw [then_of H1.out, then_of H3.out, then_of H6.out]
        unfold valueTail
        rw [if_neg HQ.out, ifSep_some H9.out, then_bad HB.out]
      have hS1 : Blk W10 vb 32 [.string ⟨a.text.toArray⟩, .int .i64 (kd : Nat), .string ⟨v.text.toArray⟩, .int .i64 0, .int .i64 (a.pos : Nat)] := hS0.kept k10 (fun h => by have : vb = bp := h; omega)
      have R10 := Lib.hid (R9d.out.kept k10 (fun h => by have : w.heap.size = bp := h; omega))
      have K10 := Lib.hid (K9d.out.callB k10 (rfl)); have A10 := Lib.hid a10; have H10 := Lib.hid h10; have hs10 := k10.size
      clear h10 a10 k10 R9d K9d A9d
      refine hK.out _ _ (fun _ => hS1) ?_
      clear hK K
      try simp only [Act.put, List.setIfInBounds_toArray, List.set_cons_zero, List.set_cons_succ]
      unfold tkV
      have happ := str_append [46] x.text
      have hfd := tok_field1
      have hlx : x.text.length ≤ 1000000 := by
        obtain ⟨e, _⟩ := takeP_ok H10.out
        exact HSH9.out x (by rw [e]; exact List.mem_cons_self)
      have happ2 := str_append v.text ([46] ++ x.text)
      refine held_take [5, 6, 7, 8] (i := 4) (v := .string ⟨x.text.toArray⟩) rfl (by kernel_rfl) (fun _ _ _ h => h) (Or.inl ⟨by rfl, fun w' hS => by go_simp⟩) hS1 ?_
      try simp only [Act.put, List.setIfInBounds_toArray, List.set_cons_zero, List.set_cons_succ]
      refine held_take [6, 7, 8] (i := 5) (v := .string ⟨([46] ++ x.text).toArray⟩) rfl (by kernel_rfl) (fun _ _ _ h => h) (Or.inl ⟨by rfl, fun w' hS => by go_simp; omega⟩) hS1 ?_
      try simp only [Act.put, List.setIfInBounds_toArray, List.set_cons_zero, List.set_cons_succ]
      refine held_take [7, 8] (i := 6) (v := .string ⟨(v.text ++ ([46] ++ x.text)).toArray⟩) rfl (by kernel_rfl) (fun _ _ _ h => h) (Or.inl ⟨by rfl, fun w' hS => by go_simp; rw [if_neg (by omega)]; rw [show v.text ++ 46 :: x.text = v.text ++ ([46] ++ x.text) from rfl, ← happ2]; rfl⟩) hS1 ?_
      try simp only [Act.put, List.setIfInBounds_toArray, List.set_cons_zero, List.set_cons_succ]
      refine held_take [8] (i := 7) (v := .pointer (some ⟨vb, 2, none⟩)) rfl (by kernel_rfl) (fun _ _ _ h => h) (Or.inl ⟨by rfl, fun w' hS => by go_simp⟩) hS1 ?_
      try simp only [Act.put, List.setIfInBounds_toArray, List.set_cons_zero, List.set_cons_succ]
      have hc2 := hS1.cell (i := 2) rfl
      have hf2 := hS1.free 2
      refine held_one (i := 8) rfl (by kernel_rfl) (fun K hK => ?_)
      go_simp
      refine hK.out _ _ (fun h => absurd (by decide) h) ?_
      clear hK K
      try simp only [Act.put, List.setIfInBounds_toArray, List.set_cons_zero, List.set_cons_succ]
      refine held_done (by kernel_rfl) ?_ _
      rename_i KK hKK
      refine hKK _ _ ?_
      clear hKK KK hc2 hf2
      have v2 : Blk (W10.setCell ⟨vb, 2, none⟩ (.string ⟨(v.text ++ 46 :: x.text).toArray⟩)) vb 32 [.string ⟨a.text.toArray⟩, .int .i64 (kd : Nat), .string ⟨(v.text ++ 46 :: x.text).toArray⟩, .int .i64 0, .int .i64 (a.pos : Nat)] := hS1.set 2 (.string ⟨(v.text ++ 46 :: x.text).toArray⟩)
      have r2 := R10.out.other (p := ⟨vb, 2, none⟩) (by show ¬ vb = w.heap.size; omega) (.string ⟨(v.text ++ 46 :: x.text).toArray⟩)
      have k2 := K10.out.setNew vb 2 (by omega) (.string ⟨(v.text ++ 46 :: x.text).toArray⟩)
      have a2 := A10.out.kept (E := onlyB vb) ((Kp.refl (onlyB vb) W10).setOld vb 2 rfl (.string ⟨(v.text ++ 46 :: x.text).toArray⟩)) (fun k hk => by have : k = vb := hk; omega)
      have V11 := Lib.hid v2; have R11 := Lib.hid r2; have K11 := Lib.hid k2; have A11 := Lib.hid a2
      have hs11 : W10.heap.size ≤ (W10.setCell ⟨vb, 2, none⟩ (.string ⟨(v.text ++ 46 :: x.text).toArray⟩)).heap.size := by simp
      clear v2 r2 k2 a2 hS0 hS1 R10 K10 A10
      generalize W10.setCell ⟨vb, 2, none⟩ (.string ⟨(v.text ++ 46 :: x.text).toArray⟩) = W11 at *
      have x0 := V11.out.cell (i := 0) rfl
      have x1 := V11.out.cell (i := 1) rfl
      have x2 := V11.out.cell (i := 2) rfl
      have x3 := V11.out.cell (i := 3) rfl
      have x4 := V11.out.cell (i := 4) rfl
      have z0 := R11.out.cell (i := 0) rfl
      have z1 := R11.out.cell (i := 1) rfl
      have z2 := R11.out.cell (i := 2) rfl
      have z3 := R11.out.cell (i := 3) rfl
      have z4 := R11.out.cell (i := 4) rfl
      have zf := R11.out.free
      go_wp2
      rw [setCells_five]
      refine bodyPost_ret (results_cell_mid rfl _ _ w.heap.size [.string ⟨a.text.toArray⟩, .int .i64 (kd : Nat), .string ⟨(v.text ++ 46 :: x.text).toArray⟩, .int .i64 0, .int .i64 (a.pos : Nat)] _ rfl (R11.out.whole (vs := [.string ⟨a.text.toArray⟩, .int .i64 (kd : Nat), .string ⟨(v.text ++ 46 :: x.text).toArray⟩, .int .i64 0, .int .i64 (a.pos : Nat)]) rfl).range Tryd.underlying32 rfl (by kernel_rfl)) rfl ?_
      refine gives_ok (⟨a.text, kd, v.text ++ 46 :: x.text, 0, a.pos⟩) r10 ?_ ⟨_, rfl, rfl⟩ (A11.out.result (by omega) _) (K11.out.result (by omega) _)
      show testP ts = _
      unfold testP
      rw [then_of H1.out, then_of H3.out, then_of H6.out]
      unfold valueTail
      rw [if_neg HQ.out, HKD.out, ifSep_some H9.out, then_of H10.out]
      rfl
    · have R9 := Lib.hid (R8.out.kept k9 (fun h => by have : w.heap.size = bp := h; omega))
      have D9 := Lib.hid (D8.out.kept k9 (fun h => by have : (w.heap.size + 2) = bp := h; omega))
      have X9 := Lib.hid (X8.out.kept k9 (fun h => by have : xb = bp := h; omega))
      have Y9 := Lib.hid (Y8.out.kept k9 (fun h => by have : yb = bp := h; omega))
      have V9 := Lib.hid (V8.out.kept k9 (fun h => by have : vb = bp := h; omega))
      have Z9 := Lib.hid (Z8.out.kept k9 (fun h => by have : zb = bp := h; omega))
      have K9 := Lib.hid (K8.out.callB k9 (rfl)); have A9 := Lib.hid a9; have H9 := Lib.hid h9; have hs9 := k9.size
      clear h9 a9 k9  R8 D8 X8 Y8 V8 Z8  K8 A8
      have x0 := V9.out.cell (i := 0) rfl
      have x1 := V9.out.cell (i := 1) rfl
      have x2 := V9.out.cell (i := 2) rfl
      have x3 := V9.out.cell (i := 3) rfl
      have x4 := V9.out.cell (i := 4) rfl
      have z0 := R9.out.cell (i := 0) rfl
      have z1 := R9.out.cell (i := 1) rfl
      have z2 := R9.out.cell (i := 2) rfl
      have z3 := R9.out.cell (i := 3) rfl
      have z4 := R9.out.cell (i := 4) rfl
      have zf := R9.out.free
      go_wp2
      rw [setCells_five]
      refine bodyPost_ret (results_cell_mid rfl _ _ w.heap.size [.string ⟨a.text.toArray⟩, .int .i64 (kd : Nat), .string ⟨v.text.toArray⟩, .int .i64 0, .int .i64 (a.pos : Nat)] _ rfl (R9.out.whole (vs := [.string ⟨a.text.toArray⟩, .int .i64 (kd : Nat), .string ⟨v.text.toArray⟩, .int .i64 0, .int .i64 (a.pos : Nat)]) rfl).range Tryd.underlying32 rfl (by kernel_rfl)) rfl ?_
      refine gives_ok (⟨a.text, kd, v.text, 0, a.pos⟩) r6 ?_ ⟨_, rfl, rfl⟩ (A9.out.result (by omega) _) (K9.out.result (by omega) _)
      show testP ts = _
      unfold testP
      rw [then_of H1.out, then_of H3.out, then_of H6.out]
      unfold valueTail
      rw [if_neg HQ.out, HKD.out, ifSep_none H9.out]
      rfl
end Go.Proofs.YtlfjdohjfmfcdabDoor
