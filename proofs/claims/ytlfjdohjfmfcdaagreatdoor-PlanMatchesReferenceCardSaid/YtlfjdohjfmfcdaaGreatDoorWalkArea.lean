/-
  The walk of areas.
-/
import Derived.Test.YtlfjdohjfmfcdaaGreatDoorKinds
namespace Go.Proofs.YtlfjdohjfmfcdaaGreatDoor
open Go.RowKit Go.Sort Go.Shelf Foyer.Plan

set_option maxRecDepth 100000 in
set_option maxHeartbeats 1000000 in
theorem area_any (bp L at_ : Nat) (ts : List TokP) (w : World) (h : At w bp L ts) : Calls Tryz.prog 63 #[.pointer (some ⟨bp, 0, none⟩), .int .i64 (at_ : Nat)] w (Gives bp L (onlyB bp) w (areaP at_ ts) (KindV areaK w.heap.size)) := by
  have hlt := h.lt
  have R0 := Blk.new w 50 [.string ⟨#[]⟩, .int .i64 0, .int .i64 0, .int .i64 0, .int .i64 0, .int .i64 0, .int .i64 0]
  have K0 : Kp (onlyB bp) w (w.alloc (.cells #[.string ⟨#[]⟩, .int .i64 0, .int .i64 0, .int .i64 0, .int .i64 0, .int .i64 0, .int .i64 0] 50)) := (Kp.refl _ _).alloc _
  have A0 := h.kept (E := fun _ => False) ((Kp.refl _ _).alloc (.cells #[.string ⟨#[]⟩, .int .i64 0, .int .i64 0, .int .i64 0, .int .i64 0, .int .i64 0, .int .i64 0] 50)) (fun _ h => h.elim)
  have hs0 : w.heap.size < (w.alloc (.cells #[.string ⟨#[]⟩, .int .i64 0, .int .i64 0, .int .i64 0, .int .i64 0, .int .i64 0, .int .i64 0] 50)).heap.size := by simp
  clear h
  go_enter Tryz.func63, Tryz.ntmps63
  go_upto_region 1 with fail
  generalize w.alloc (.cells #[.string ⟨#[]⟩, .int .i64 0, .int .i64 0, .int .i64 0, .int .i64 0, .int .i64 0, .int .i64 0] 50) = W0 at *
  have R0 := Lib.hid R0; have K0 := Lib.hid K0; have A0 := Lib.hid A0
  go_wp2_with fail
  refine (name_any bp L ts _ A0.out).mono ?_
  rintro e W1 (⟨n, r1, h1, rfl, a1, k1⟩ | ⟨r1, h1, rfl, k1⟩)
  rotate_left
  · have KK := Lib.hid (K0.out.trans k1); have HB := Lib.hid h1
    clear h1 k1
    unfold failP
    go_wp2
    refine ⟨rfl, gives_bad _ ?_ KK.out⟩
    show areaP at_ ts = _
    unfold areaP
    rw [then_bad HB.out]
  have R1 := Lib.hid (R0.out.kept k1 (fun h => by have : w.heap.size = bp := h; omega))
  have K1 := Lib.hid (K0.out.trans k1); have A1 := Lib.hid a1; have H1 := Lib.hid h1; have hs1 := k1.size
  clear h1 a1 k1  R0 K0 A0
  go_wp2_with fail
  refine (box_any bp L r1 _ A1.out).mono ?_
  rintro e W2 (⟨b, r2, h2, rfl, a2, k2⟩ | ⟨r2, h2, rfl, k2⟩)
  rotate_left
  · have KK := Lib.hid (K1.out.trans k2); have HB := Lib.hid h2
    clear h2 k2
    unfold failP
    go_wp2
    refine ⟨rfl, gives_bad _ ?_ KK.out⟩
    show areaP at_ ts = _
    unfold areaP
    rw [then_of H1.out, then_bad HB.out]
  have R2 := Lib.hid (R1.out.kept k2 (fun h => by have : w.heap.size = bp := h; omega))
  have K2 := Lib.hid (K1.out.trans k2); have A2 := Lib.hid a2; have H2 := Lib.hid h2; have hs2 := k2.size
  clear h2 a2 k2  R1 K1 A1
  unfold boxC
  go_upto_region 2 with fail
  have V3 := Blk.new W2 50 [.string ⟨n.toArray⟩, .int .i64 (b.x : Nat), .int .i64 (b.y : Nat), .int .i64 (b.x2 : Nat), .int .i64 (b.y2 : Nat), .int .i64 0, .int .i64 (at_ : Nat)]
  have R3 := R2.out.alloc (.cells #[.string ⟨n.toArray⟩, .int .i64 (b.x : Nat), .int .i64 (b.y : Nat), .int .i64 (b.x2 : Nat), .int .i64 (b.y2 : Nat), .int .i64 0, .int .i64 (at_ : Nat)] 50)
  have K3 := K2.out.alloc (.cells #[.string ⟨n.toArray⟩, .int .i64 (b.x : Nat), .int .i64 (b.y : Nat), .int .i64 (b.x2 : Nat), .int .i64 (b.y2 : Nat), .int .i64 0, .int .i64 (at_ : Nat)] 50)
  have A3 := A2.out.kept (E := fun _ => False) ((Kp.refl _ _).alloc (.cells #[.string ⟨n.toArray⟩, .int .i64 (b.x : Nat), .int .i64 (b.y : Nat), .int .i64 (b.x2 : Nat), .int .i64 (b.y2 : Nat), .int .i64 0, .int .i64 (at_ : Nat)] 50)) (fun _ h => h.elim)
  have hs3 : W2.heap.size < (W2.alloc (.cells #[.string ⟨n.toArray⟩, .int .i64 (b.x : Nat), .int .i64 (b.y : Nat), .int .i64 (b.x2 : Nat), .int .i64 (b.y2 : Nat), .int .i64 0, .int .i64 (at_ : Nat)] 50)).heap.size := by simp
  generalize W2.alloc (.cells #[.string ⟨n.toArray⟩, .int .i64 (b.x : Nat), .int .i64 (b.y : Nat), .int .i64 (b.x2 : Nat), .int .i64 (b.y2 : Nat), .int .i64 0, .int .i64 (at_ : Nat)] 50) = W3 at *
  generalize W2.heap.size = vb at *
  have R3 := Lib.hid R3
  have V3 := Lib.hid V3
  have K3 := Lib.hid K3; have A3 := Lib.hid A3
  clear R2 K2 A2
  go_wp2_with fail
  refine (word_any bp L r2 wHolds _ A3.out).mono ?_
  rintro e W4 (⟨x3, r4, h4, rfl, a4, k4⟩ | ⟨r4, h4, rfl, k4⟩)
  rotate_left
  · have KK := Lib.hid (K3.out.trans k4); have HB := Lib.hid h4
    clear h4 k4
    unfold failP
    go_wp2
    refine ⟨rfl, gives_bad _ ?_ KK.out⟩
    show areaP at_ ts = _
    unfold areaP
    rw [then_of H1.out, then_of H2.out, then_bad HB.out]
  have R4 := Lib.hid (R3.out.kept k4 (fun h => by have : w.heap.size = bp := h; omega))
  have V4 := Lib.hid (V3.out.kept k4 (fun h => by have : vb = bp := h; omega))
  have K4 := Lib.hid (K3.out.trans k4); have A4 := Lib.hid a4; have H4 := Lib.hid h4; have hs4 := k4.size
  clear h4 a4 k4  R3 V3 K3 A3
  go_wp2_with fail
  refine (numbers1_any bp L r4 W4.heap.size vb 50 92 [.string ⟨n.toArray⟩, .int .i64 (b.x : Nat), .int .i64 (b.y : Nat), .int .i64 (b.x2 : Nat), .int .i64 (b.y2 : Nat), .int .i64 0, .int .i64 (at_ : Nat)] _ (A4.out.kept (E := fun _ => False) ((Kp.refl _ _).alloc _) (fun _ h => h.elim)) (V4.out.alloc _) (by omega) (by have := V4.out.lt; omega) (by have := A4.out.lt; omega) 5 (by simp) (Blk.new W4 _ [.pointer (some ⟨vb, 5, none⟩)])).mono ?_
  rintro e W5 (⟨hn, r5, h5, ⟨rfl, v5⟩, a5, k5⟩ | ⟨r5, h5, rfl, k5⟩)
  rotate_left
  · have KK := Lib.hid ((K4.out.alloc _).call k5 (fun k hk => hk.elim (fun h => Or.inl h) (fun h => Or.inr (by have : k = vb := h; omega)))); have HB := Lib.hid h5
    clear h5 k5
    unfold failP
    go_wp2
    refine ⟨rfl, gives_bad _ ?_ KK.out⟩
    show areaP at_ ts = _
    unfold areaP
    rw [then_of H1.out, then_of H2.out, then_of H4.out, then_bad HB.out]
  have R5 := Lib.hid ((R4.out.alloc (.cells #[.pointer (some ⟨vb, 5, none⟩)] 92)).kept k5 (fun h => h.elim (fun h => by have : w.heap.size = bp := h; omega) (fun h => by have : w.heap.size = vb := h; omega)))
  have V5 : Hid (Blk W5 vb 50 [.string ⟨n.toArray⟩, .int .i64 (b.x : Nat), .int .i64 (b.y : Nat), .int .i64 (b.x2 : Nat), .int .i64 (b.y2 : Nat), .int .i64 (hn : Nat), .int .i64 (at_ : Nat)]) := Lib.hid v5
  have K5 := Lib.hid ((K4.out.alloc _).call k5 (fun k hk => hk.elim (fun h => Or.inl h) (fun h => Or.inr (by have : k = vb := h; omega)))); have A5 := Lib.hid a5; have H5 := Lib.hid h5
  have hs5 : W4.heap.size ≤ W5.heap.size := Nat.le_trans (by simp) k5.size
  clear h5 a5 k5 v5  R4 V4 K4 A4
  go_wp2_with fail
  refine (word_any bp L r5 wSemi _ A5.out).mono ?_
  rintro e W6 (⟨x5, r6, h6, rfl, a6, k6⟩ | ⟨r6, h6, rfl, k6⟩)
  rotate_left
  · have KK := Lib.hid (K5.out.trans k6); have HB := Lib.hid h6
    clear h6 k6
    unfold failP
    go_wp2
    refine ⟨rfl, gives_bad _ ?_ KK.out⟩
    show areaP at_ ts = _
    unfold areaP
    rw [then_of H1.out, then_of H2.out, then_of H4.out, then_of H5.out, then_bad HB.out]
  have R6 := Lib.hid (R5.out.kept k6 (fun h => by have : w.heap.size = bp := h; omega))
  have V6 := Lib.hid (V5.out.kept k6 (fun h => by have : vb = bp := h; omega))
  have K6 := Lib.hid (K5.out.trans k6); have A6 := Lib.hid a6; have H6 := Lib.hid h6; have hs6 := k6.size
  clear h6 a6 k6  R5 V5 K5 A5
  have x0 := V6.out.cell (i := 0) rfl
  have x1 := V6.out.cell (i := 1) rfl
  have x2 := V6.out.cell (i := 2) rfl
  have x3 := V6.out.cell (i := 3) rfl
  have x4 := V6.out.cell (i := 4) rfl
  have x5 := V6.out.cell (i := 5) rfl
  have x6 := V6.out.cell (i := 6) rfl
  have z0 := R6.out.cell (i := 0) rfl
  have z1 := R6.out.cell (i := 1) rfl
  have z2 := R6.out.cell (i := 2) rfl
  have z3 := R6.out.cell (i := 3) rfl
  have z4 := R6.out.cell (i := 4) rfl
  have z5 := R6.out.cell (i := 5) rfl
  have z6 := R6.out.cell (i := 6) rfl
  have zf := R6.out.free
  go_wp2
  rw [setCells_seven]
  refine bodyPost_ret (results_cell_mid rfl _ _ (w.heap.size) [.string ⟨n.toArray⟩, .int .i64 (b.x : Nat), .int .i64 (b.y : Nat), .int .i64 (b.x2 : Nat), .int .i64 (b.y2 : Nat), .int .i64 (hn : Nat), .int .i64 (at_ : Nat)] _ rfl (R6.out.whole (vs := [.string ⟨n.toArray⟩, .int .i64 (b.x : Nat), .int .i64 (b.y : Nat), .int .i64 (b.x2 : Nat), .int .i64 (b.y2 : Nat), .int .i64 (hn : Nat), .int .i64 (at_ : Nat)]) rfl).range Tryz.underlying50 rfl (by kernel_rfl)) rfl ?_
  refine gives_ok (⟨n, b, hn, at_⟩) r6 ?_ ?_ (A6.out.result (by omega) _) (K6.out.result (by omega) _)
  · show areaP at_ ts = _
    unfold areaP
    rw [then_of H1.out, then_of H2.out, then_of H4.out, then_of H5.out, then_of H6.out]
    rfl
  · exact ⟨_, rfl, rfl⟩
end Go.Proofs.YtlfjdohjfmfcdaaGreatDoor
