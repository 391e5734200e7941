/-
  The walks of what a rule has between its name and its conditions: ratios, limits, prices.
-/
import Derived.Test.YtlfjdohjfmfcdabDoorKinds
import Derived.Carry
namespace Go.Proofs.YtlfjdohjfmfcdabDoor
open Go.RowKit Go.Sort Go.Shelf Foyer.Rule

def twoB (b c : Nat) : Nat → Prop := fun k => k = b ∨ k = c
theorem Kp.callB {E : Nat → Prop} {a b c : World} {bp : Nat} (h : Kp E a b) (k : Kp (onlyB bp) b c) (hE : E bp) : Kp E a c := h.call k (fun j hj => Or.inl (by have e : j = bp := hj; rw [e]; exact hE))
theorem setCells_two (w : World) (b : Nat) (v0 v1 : Value) : (w.setCell ⟨b, 0, none⟩ v0).setCell ⟨b, 1, none⟩ v1 = w.setCells b 0 [v0, v1] := rfl
theorem setCells_five (w : World) (b : Nat) (v0 v1 v2 v3 v4 : Value) : ((((w.setCell ⟨b, 0, none⟩ v0).setCell ⟨b, 1, none⟩ v1).setCell ⟨b, 2, none⟩ v2).setCell ⟨b, 3, none⟩ v3).setCell ⟨b, 4, none⟩ v4 = w.setCells b 0 [v0, v1, v2, v3, v4] := rfl
theorem setCells_nine (w : World) (b : Nat) (v0 v1 v2 v3 v4 v5 v6 v7 v8 : Value) : ((((((((w.setCell ⟨b, 0, none⟩ v0).setCell ⟨b, 1, none⟩ v1).setCell ⟨b, 2, none⟩ v2).setCell ⟨b, 3, none⟩ v3).setCell ⟨b, 4, none⟩ v4).setCell ⟨b, 5, none⟩ v5).setCell ⟨b, 6, none⟩ v6).setCell ⟨b, 7, none⟩ v7).setCell ⟨b, 8, none⟩ v8 = w.setCells b 0 [v0, v1, v2, v3, v4, v5, v6, v7, v8] := rfl
/-- What writing a whole block leaves. -/
theorem Kp.result {E : Nat → Prop} {a W : World} {b : Nat} (h : Kp E a W) (hb : a.heap.size ≤ b) (vs : List Value) : Kp E a (W.setCells b 0 vs) := Kp.setCells (Or.inr hb) vs 0 W h
theorem At.result {W : World} {bp L b : Nat} {ts : List TokP} (h : At W bp L ts) (hb : bp < b) (vs : List Value) : At (W.setCells b 0 vs) bp L ts :=
  h.kept (Kp.setCells (E := fun k => k = b) (Or.inl rfl) vs 0 W (Kp.refl _ _)) fun k hk => by have : k = b := hk; omega
def ratioC (r : Nat × Nat) : List Value := [.int .i64 (r.1 : Nat), .int .i64 (r.2 : Nat)]
def AggV {α : Type} (C : α → List Value) (a : α) (e : Ending) (_ : World) : Prop := e = .returned (.agg (C a).toArray)
set_option maxRecDepth 100000 in
set_option maxHeartbeats 2000000 in
theorem ratio_any (bp L : Nat) (ts : List TokP) (w : World) (h : At w bp L ts) : Calls Tryd.prog 71 #[.pointer (some ⟨bp, 0, none⟩)] w (Gives bp L (onlyB bp) w (ratioP ts) (AggV ratioC)) := by
  have hlt := h.lt
  have R0 := Blk.new w 36 [.int .i64 0, .int .i64 0]
  have K0 : Kp (onlyB bp) w (w.alloc (.cells #[.int .i64 0, .int .i64 0] 36)) := (Kp.refl _ _).alloc _
  have A0 := h.kept (E := fun _ => False) ((Kp.refl _ w).alloc (.cells #[.int .i64 0, .int .i64 0] 36)) (fun _ h => h.elim)
  have hs0 : w.heap.size < (w.alloc (.cells #[.int .i64 0, .int .i64 0] 36)).heap.size := by simp
  clear h
  go_enter Tryd.func71, Tryd.ntmps71
  go_upto_region 1 with fail
  generalize w.alloc (.cells #[.int .i64 0, .int .i64 0] 36) = W0 at *
  have R0 := Lib.hid R0; have K0 := Lib.hid K0; have A0 := Lib.hid A0
  go_wp2_with fail
  refine (number_any bp L ts _ A0.out).mono ?_
  rintro e W1 (⟨a, r1, h1, rfl, a1, k1⟩ | ⟨c1, r1, h1, rfl, k1⟩)
  rotate_left
  · have KK := Lib.hid (K0.out.callB k1 (rfl)); have HB := Lib.hid h1
    clear h1 k1
    unfold failP
    go_wp2
    refine ⟨rfl, gives_bad _ _ ?_ KK.out⟩
    show ratioP ts = _
    unfold ratioP
    rw [then_bad HB.out]
  have R1 := Lib.hid (R0.out.kept k1 (fun h => by have : w.heap.size = bp := h; omega))
  have K1 := Lib.hid (K0.out.callB k1 (rfl)); have A1 := Lib.hid a1; have H1 := Lib.hid h1; have hs1 := k1.size
  clear h1 a1 k1  R0  K0 A0
  go_wp2_with fail
  refine (word_any bp L r1 wSlash _ A1.out).mono ?_
  rintro e W2 (⟨u, r2, h2, rfl, a2, k2⟩ | ⟨c2, r2, h2, rfl, k2⟩)
  rotate_left
  · have KK := Lib.hid (K1.out.callB k2 (rfl)); have HB := Lib.hid h2
    clear h2 k2
    unfold failP
    go_wp2
    refine ⟨rfl, gives_bad _ _ ?_ KK.out⟩
    show ratioP ts = _
    unfold ratioP
    rw [then_of H1.out, then_bad HB.out]
  have R2 := Lib.hid (R1.out.kept k2 (fun h => by have : w.heap.size = bp := h; omega))
  have K2 := Lib.hid (K1.out.callB k2 (rfl)); have A2 := Lib.hid a2; have H2 := Lib.hid h2; have hs2 := k2.size
  clear h2 a2 k2  R1  K1 A1
  go_wp2_with fail
  refine (number_any bp L r2 _ A2.out).mono ?_
  rintro e W3 (⟨b, r3, h3, rfl, a3, k3⟩ | ⟨c3, r3, h3, rfl, k3⟩)
  rotate_left
  · have KK := Lib.hid (K2.out.callB k3 (rfl)); have HB := Lib.hid h3
    clear h3 k3
    unfold failP
    go_wp2
    refine ⟨rfl, gives_bad _ _ ?_ KK.out⟩
    show ratioP ts = _
    unfold ratioP
    rw [then_of H1.out, then_of H2.out, then_bad HB.out]
  have R3 := Lib.hid (R2.out.kept k3 (fun h => by have : w.heap.size = bp := h; omega))
  have K3 := Lib.hid (K2.out.callB k3 (rfl)); have A3 := Lib.hid a3; have H3 := Lib.hid h3; have hs3 := k3.size
  clear h3 a3 k3  R2  K2 A2
  have z0 := R3.out.cell (i := 0) rfl
  have z1 := R3.out.cell (i := 1) rfl
  have zf := R3.out.free
  go_wp2
  rw [setCells_two]
  refine bodyPost_ret (results_cell_mid rfl _ _ w.heap.size [.int .i64 (a : Nat), .int .i64 (b : Nat)] _ rfl (R3.out.whole (vs := [.int .i64 (a : Nat), .int .i64 (b : Nat)]) rfl).range Tryd.underlying36 rfl (by kernel_rfl)) rfl ?_
  refine gives_ok ((a, b)) r3 ?_ rfl (A3.out.result (by omega) _) (K3.out.result (by omega) _)
  show ratioP ts = _
  unfold ratioP
  rw [then_of H1.out, then_of H2.out, then_of H3.out]
  rfl
set_option maxRecDepth 100000 in
set_option maxHeartbeats 2000000 in
theorem ratioIf_any (bp L : Nat) (s : List UInt8) (ts : List TokP) (w : World) (h : At w bp L ts) : Calls Tryd.prog 70 #[.pointer (some ⟨bp, 0, none⟩), .string ⟨s.toArray⟩] w (Gives bp L (onlyB bp) w (ratioIf s ts) (AggV ratioC)) := by
  have hlt := h.lt
  have R0 := Blk.new w 36 [.int .i64 0, .int .i64 0]
  have K0 : Kp (onlyB bp) w (w.alloc (.cells #[.int .i64 0, .int .i64 0] 36)) := (Kp.refl _ _).alloc _
  have A0 := h.kept (E := fun _ => False) ((Kp.refl _ w).alloc (.cells #[.int .i64 0, .int .i64 0] 36)) (fun _ h => h.elim)
  have hs0 : w.heap.size < (w.alloc (.cells #[.int .i64 0, .int .i64 0] 36)).heap.size := by simp
  clear h
  go_enter Tryd.func70, Tryd.ntmps70
  go_upto_region 1 with fail
  generalize w.alloc (.cells #[.int .i64 0, .int .i64 0] 36) = W0 at *
  have R0 := Lib.hid R0; have K0 := Lib.hid K0; have A0 := Lib.hid A0
  go_wp2_with fail
  refine (skip_any bp L ts s _ A0.out).mono ?_
  rintro e W1 ⟨⟨r1, h1, rfl, a1⟩ | ⟨h1, rfl, a1⟩, k1⟩
  · have R1 := Lib.hid (R0.out.kept k1 (fun h => by have : w.heap.size = bp := h; omega))
    have K1 := Lib.hid (K0.out.callB k1 (rfl)); have A1 := Lib.hid a1; have H1 := Lib.hid h1; have hs1 := k1.size
    clear h1 a1 k1  R0  K0 A0
    go_wp2_with fail
    refine (ratio_any bp L r1 _ A1.out).mono ?_
    rintro e W2 (⟨⟨a, b⟩, r2, h2, rfl, a2, k2⟩ | ⟨c2, r2, h2, rfl, k2⟩)
    rotate_left
    · have KK := Lib.hid (K1.out.callB k2 (rfl)); have HB := Lib.hid h2
      clear h2 k2
      unfold failP
      go_wp2
      refine ⟨rfl, gives_bad _ _ ?_ KK.out⟩
      show ratioIf s ts = _
      unfold ratioIf
      rw [ifSep_some H1.out, HB.out]
    have R2 := Lib.hid (R1.out.kept k2 (fun h => by have : w.heap.size = bp := h; omega))
    have K2 := Lib.hid (K1.out.callB k2 (rfl)); have A2 := Lib.hid a2; have H2 := Lib.hid h2; have hs2 := k2.size
    clear h2 a2 k2  R1  K1 A1
    have z0 := R2.out.cell (i := 0) rfl
    have z1 := R2.out.cell (i := 1) rfl
    have zf := R2.out.free
    unfold ratioC
    go_wp2
    rw [setCells_two]
    refine bodyPost_ret (results_cell_mid rfl _ _ w.heap.size [.int .i64 (a : Nat), .int .i64 (b : Nat)] _ rfl (R2.out.whole (vs := [.int .i64 (a : Nat), .int .i64 (b : Nat)]) rfl).range Tryd.underlying36 rfl (by kernel_rfl)) rfl ?_
    refine gives_ok (a, b) r2 ?_ rfl (A2.out.result (by omega) _) (K2.out.result (by omega) _)
    show ratioIf s ts = _
    unfold ratioIf
    rw [ifSep_some H1.out, H2.out]
  · have R1 := Lib.hid (R0.out.kept k1 (fun h => by have : w.heap.size = bp := h; omega))
    have K1 := Lib.hid (K0.out.callB k1 (rfl)); have A1 := Lib.hid a1; have H1 := Lib.hid h1; have hs1 := k1.size
    clear h1 a1 k1  R0  K0 A0
    have z0 := R1.out.cell (i := 0) rfl
    have z1 := R1.out.cell (i := 1) rfl
    have zf := R1.out.free
    go_wp2
    rw [setCells_two]
    refine bodyPost_ret (results_cell_mid rfl _ _ w.heap.size [.int .i64 0, .int .i64 1] _ rfl (R1.out.whole (vs := [.int .i64 0, .int .i64 1]) rfl).range Tryd.underlying36 rfl (by kernel_rfl)) rfl ?_
    refine gives_ok ((0, 1)) ts ?_ rfl (A1.out.result (by omega) _) (K1.out.result (by omega) _)
    show ratioIf s ts = _
    unfold ratioIf
    rw [ifSep_none H1.out]
    rfl
set_option maxRecDepth 100000 in
set_option maxHeartbeats 2000000 in
theorem limit_any (bp L ib kd pos : Nat) (nm : List UInt8) (v : Value) (ts : List TokP) (w : World) (h : At w bp L ts) (hI : Blk w ib 38 (itemCl kd nm v ⟨0, 0, 0, 0, 0⟩ pos)) (hb : bp < ib) : Calls Tryd.prog 56 #[.pointer (some ⟨bp, 0, none⟩), .pointer (some ⟨ib, 0, none⟩)] w (Gives bp L (twoB bp ib) w (limitH ts) (fun h e w' => e = .returned (.tuple #[]) ∧ Blk w' ib 38 (itemCl kd nm v h pos))) := by
  have K0 : Hid (Kp (twoB bp ib) w w) := Lib.hid (Kp.refl _ _)
  have A0 := Lib.hid h
  have V0 : Hid (Blk w ib 38 [.int .i64 (kd : Nat), .string ⟨nm.toArray⟩, v, .int .i64 0, .int .i64 0, .int .i64 0, .int .i64 0, .int .i64 0, .int .i64 (pos : Nat)]) := Lib.hid hI
  have hlt := hI.lt
  clear h hI
  go_enter Tryd.func56, Tryd.ntmps56
  go_wp2_with fail
  refine (skip_any bp L ts wLimit _ A0.out).mono ?_
  rintro e W1 ⟨⟨r1, h1, rfl, a1⟩ | ⟨h1, rfl, a1⟩, k1⟩
  · have V1 := Lib.hid (V0.out.kept k1 (fun h => by have : ib = bp := h; omega))
    have K1 := Lib.hid (K0.out.callB k1 (Or.inl rfl)); have A1 := Lib.hid a1; have H1 := Lib.hid h1; have hs1 := k1.size
    clear h1 a1 k1  V0  K0 A0
    go_wp2_with fail
    refine (number_any bp L r1 _ A1.out).mono ?_
    rintro e W2 (⟨n, r2, h2, rfl, a2, k2⟩ | ⟨c2, r2, h2, rfl, k2⟩)
    rotate_left
    · have KK := Lib.hid (K1.out.callB k2 (Or.inl rfl)); have HB := Lib.hid h2
      clear h2 k2
      unfold failP
      go_wp2
      refine ⟨rfl, gives_bad _ _ ?_ KK.out⟩
      show limitH ts = _
      unfold limitH
      rw [ifSep_some H1.out, then_bad HB.out]
    have V2 := Lib.hid (V1.out.kept k2 (fun h => by have : ib = bp := h; omega))
    have K2 := Lib.hid (K1.out.callB k2 (Or.inl rfl)); have A2 := Lib.hid a2; have H2 := Lib.hid h2; have hs2 := k2.size
    clear h2 a2 k2  V1  K1 A1
    have cs0 := V2.out.cell (i := 3) rfl
    have cf := V2.out.free
    go_wp2
    go_end0
    refine gives_ok (⟨n, 0, 0, 0, 0⟩) r2 ?_ ⟨rfl, (V2.out.set 3 (.int .i64 (n : Nat)))⟩ (A2.out.kept ((Kp.refl (onlyB ib) _).setOld ib 3 rfl (.int .i64 (n : Nat))) (fun k hk => by have : k = ib := hk; omega)) (K2.out.setOld ib 3 (Or.inr rfl) (.int .i64 (n : Nat)))
    show limitH ts = _
    unfold limitH
    rw [ifSep_some H1.out, then_of H2.out]
    rfl
  · have V1 := Lib.hid (V0.out.kept k1 (fun h => by have : ib = bp := h; omega))
    have K1 := Lib.hid (K0.out.callB k1 (Or.inl rfl)); have A1 := Lib.hid a1; have H1 := Lib.hid h1; have hs1 := k1.size
    clear h1 a1 k1  V0  K0 A0
    go_wp2
    go_end0
    refine gives_ok (⟨0, 0, 0, 0, 0⟩) ts ?_ ⟨rfl, V1.out⟩ A1.out K1.out
    show limitH ts = _
    unfold limitH
    rw [ifSep_none H1.out]
    rfl
set_option maxRecDepth 100000 in
set_option maxHeartbeats 2000000 in
theorem nothing_any (bp L ib kd pos : Nat) (nm : List UInt8) (v : Value) (ts : List TokP) (w : World) (h : At w bp L ts) (hI : Blk w ib 38 (itemCl kd nm v ⟨0, 0, 0, 0, 0⟩ pos)) (_hb : bp < ib) : Calls Tryd.prog 57 #[.pointer (some ⟨bp, 0, none⟩), .pointer (some ⟨ib, 0, none⟩)] w (Gives bp L (twoB bp ib) w (nothingH ts) (fun h e w' => e = .returned (.tuple #[]) ∧ Blk w' ib 38 (itemCl kd nm v h pos))) := by
  have K0 : Hid (Kp (twoB bp ib) w w) := Lib.hid (Kp.refl _ _)
  have A0 := Lib.hid h
  have V0 : Hid (Blk w ib 38 [.int .i64 (kd : Nat), .string ⟨nm.toArray⟩, v, .int .i64 0, .int .i64 0, .int .i64 0, .int .i64 0, .int .i64 0, .int .i64 (pos : Nat)]) := Lib.hid hI
  have hlt := hI.lt
  clear h hI
  go_enter Tryd.func57, Tryd.ntmps57
  go_wp2
  go_end0
  exact gives_ok (⟨0, 0, 0, 0, 0⟩ : HeadP) ts rfl ⟨rfl, V0.out⟩ A0.out K0.out
set_option maxRecDepth 100000 in
set_option maxHeartbeats 2000000 in
theorem refund_any (bp L ib kd pos : Nat) (nm : List UInt8) (v : Value) (ts : List TokP) (w : World) (h : At w bp L ts) (hI : Blk w ib 38 (itemCl kd nm v ⟨0, 0, 0, 0, 0⟩ pos)) (hb : bp < ib) : Calls Tryd.prog 60 #[.pointer (some ⟨bp, 0, none⟩), .pointer (some ⟨ib, 0, none⟩)] w (Gives bp L (twoB bp ib) w (refundH ts) (fun h e w' => e = .returned (.tuple #[]) ∧ Blk w' ib 38 (itemCl kd nm v h pos))) := by
  have K0 : Hid (Kp (twoB bp ib) w w) := Lib.hid (Kp.refl _ _)
  have A0 := Lib.hid h
  have V0 : Hid (Blk w ib 38 [.int .i64 (kd : Nat), .string ⟨nm.toArray⟩, v, .int .i64 0, .int .i64 0, .int .i64 0, .int .i64 0, .int .i64 0, .int .i64 (pos : Nat)]) := Lib.hid hI
  have hlt := hI.lt
  clear h hI
  go_enter Tryd.func60, Tryd.ntmps60
  go_wp2_with fail
  refine (ratio_any bp L ts _ A0.out).mono ?_
  rintro e W1 (⟨⟨a, b⟩, r1, h1, rfl, a1, k1⟩ | ⟨c1, r1, h1, rfl, k1⟩)
  rotate_left
  · have KK := Lib.hid (K0.out.callB k1 (Or.inl rfl)); have HB := Lib.hid h1
    clear h1 k1
    unfold failP
    go_wp2
    refine ⟨rfl, gives_bad _ _ ?_ KK.out⟩
    show refundH ts = _
    unfold refundH
    rw [then_bad HB.out]
  have V1 := Lib.hid (V0.out.kept k1 (fun h => by have : ib = bp := h; omega))
  have K1 := Lib.hid (K0.out.callB k1 (Or.inl rfl)); have A1 := Lib.hid a1; have H1 := Lib.hid h1; have hs1 := k1.size
  unfold ratioC
  clear h1 a1 k1  V0  K0 A0
  have cs0 := V1.out.cell (i := 4) rfl
  have cs1 := V1.out.cell (i := 5) rfl
  have cf := V1.out.free
  go_wp2
  go_end0
  refine gives_ok (⟨0, a, b, 0, 0⟩) r1 ?_ ⟨rfl, ((V1.out.set 4 (.int .i64 (a : Nat))).set 5 (.int .i64 (b : Nat)))⟩ (A1.out.kept (((Kp.refl (onlyB ib) _).setOld ib 4 rfl (.int .i64 (a : Nat))).setOld ib 5 rfl (.int .i64 (b : Nat))) (fun k hk => by have : k = ib := hk; omega)) ((K1.out.setOld ib 4 (Or.inr rfl) (.int .i64 (a : Nat))).setOld ib 5 (Or.inr rfl) (.int .i64 (b : Nat)))
  show refundH ts = _
  unfold refundH
  rw [then_of H1.out]
  rfl
set_option maxRecDepth 100000 in
set_option maxHeartbeats 2000000 in
theorem resale_any (bp L ib kd pos : Nat) (nm : List UInt8) (v : Value) (ts : List TokP) (w : World) (h : At w bp L ts) (hI : Blk w ib 38 (itemCl kd nm v ⟨0, 0, 0, 0, 0⟩ pos)) (hb : bp < ib) : Calls Tryd.prog 59 #[.pointer (some ⟨bp, 0, none⟩), .pointer (some ⟨ib, 0, none⟩)] w (Gives bp L (twoB bp ib) w (resaleH ts) (fun h e w' => e = .returned (.tuple #[]) ∧ Blk w' ib 38 (itemCl kd nm v h pos))) := by
  have K0 : Hid (Kp (twoB bp ib) w w) := Lib.hid (Kp.refl _ _)
  have A0 := Lib.hid h
  have V0 : Hid (Blk w ib 38 [.int .i64 (kd : Nat), .string ⟨nm.toArray⟩, v, .int .i64 0, .int .i64 0, .int .i64 0, .int .i64 0, .int .i64 0, .int .i64 (pos : Nat)]) := Lib.hid hI
  have hlt := hI.lt
  clear h hI
  go_enter Tryd.func59, Tryd.ntmps59
  go_wp2_with fail
  refine (word_any bp L ts wCap _ A0.out).mono ?_
  rintro e W1 (⟨u, r1, h1, rfl, a1, k1⟩ | ⟨c1, r1, h1, rfl, k1⟩)
  rotate_left
  · have KK := Lib.hid (K0.out.callB k1 (Or.inl rfl)); have HB := Lib.hid h1
    clear h1 k1
    unfold failP
    go_wp2
    refine ⟨rfl, gives_bad _ _ ?_ KK.out⟩
    show resaleH ts = _
    unfold resaleH
    rw [then_bad HB.out]
  have V1 := Lib.hid (V0.out.kept k1 (fun h => by have : ib = bp := h; omega))
  have K1 := Lib.hid (K0.out.callB k1 (Or.inl rfl)); have A1 := Lib.hid a1; have H1 := Lib.hid h1; have hs1 := k1.size
  clear h1 a1 k1  V0  K0 A0
  go_wp2_with fail
  refine (ratio_any bp L r1 _ A1.out).mono ?_
  rintro e W2 (⟨⟨a, b⟩, r2, h2, rfl, a2, k2⟩ | ⟨c2, r2, h2, rfl, k2⟩)
  rotate_left
  · have KK := Lib.hid (K1.out.callB k2 (Or.inl rfl)); have HB := Lib.hid h2
    clear h2 k2
    unfold failP
    go_wp2
    refine ⟨rfl, gives_bad _ _ ?_ KK.out⟩
    show resaleH ts = _
    unfold resaleH
    rw [then_of H1.out, then_bad HB.out]
  have V2 := Lib.hid (V1.out.kept k2 (fun h => by have : ib = bp := h; omega))
  have K2 := Lib.hid (K1.out.callB k2 (Or.inl rfl)); have A2 := Lib.hid a2; have H2 := Lib.hid h2; have hs2 := k2.size
  unfold ratioC
  clear h2 a2 k2  V1  K1 A1
  have cs0 := V2.out.cell (i := 4) rfl
  have cs1 := V2.out.cell (i := 5) rfl
  have cf := V2.out.free
  go_upto_region 2 with fail
  have V3 : Blk ((W2.setCell ⟨ib, 4, none⟩ (.int .i64 (a : Nat))).setCell ⟨ib, 5, none⟩ (.int .i64 (b : Nat))) ib 38 [.int .i64 (kd : Nat), .string ⟨nm.toArray⟩, v, .int .i64 0, .int .i64 (a : Nat), .int .i64 (b : Nat), .int .i64 0, .int .i64 0, .int .i64 (pos : Nat)] := ((V2.out.set 4 (.int .i64 (a : Nat))).set 5 (.int .i64 (b : Nat)))
  have K3 := ((K2.out.setOld ib 4 (Or.inr rfl) (.int .i64 (a : Nat))).setOld ib 5 (Or.inr rfl) (.int .i64 (b : Nat)))
  have A3 := A2.out.kept (E := onlyB ib) (((Kp.refl (onlyB ib) W2).setOld ib 4 rfl (.int .i64 (a : Nat))).setOld ib 5 rfl (.int .i64 (b : Nat))) (fun k hk => by have : k = ib := hk; omega)
  have hs3 : W2.heap.size ≤ ((W2.setCell ⟨ib, 4, none⟩ (.int .i64 (a : Nat))).setCell ⟨ib, 5, none⟩ (.int .i64 (b : Nat))).heap.size := by simp
  generalize (W2.setCell ⟨ib, 4, none⟩ (.int .i64 (a : Nat))).setCell ⟨ib, 5, none⟩ (.int .i64 (b : Nat)) = W3 at *
  have V3 := Lib.hid V3
  have K3 := Lib.hid K3; have A3 := Lib.hid A3
  clear cf cs0 cs1 V2  K2 A2
  go_wp2_with fail
  refine (word_any bp L r2 wShare _ A3.out).mono ?_
  rintro e W4 (⟨u, r4, h4, rfl, a4, k4⟩ | ⟨c4, r4, h4, rfl, k4⟩)
  rotate_left
  · have KK := Lib.hid (K3.out.callB k4 (Or.inl rfl)); have HB := Lib.hid h4
    clear h4 k4
    unfold failP
    go_wp2
    refine ⟨rfl, gives_bad _ _ ?_ KK.out⟩
    show resaleH ts = _
    unfold resaleH
    rw [then_of H1.out, then_of H2.out, then_bad HB.out]
  have V4 := Lib.hid (V3.out.kept k4 (fun h => by have : ib = bp := h; omega))
  have K4 := Lib.hid (K3.out.callB k4 (Or.inl rfl)); have A4 := Lib.hid a4; have H4 := Lib.hid h4; have hs4 := k4.size
  clear h4 a4 k4  V3  K3 A3
  go_wp2_with fail
  refine (ratio_any bp L r4 _ A4.out).mono ?_
  rintro e W5 (⟨⟨c, d⟩, r5, h5, rfl, a5, k5⟩ | ⟨c5, r5, h5, rfl, k5⟩)
  rotate_left
  · have KK := Lib.hid (K4.out.callB k5 (Or.inl rfl)); have HB := Lib.hid h5
    clear h5 k5
    unfold failP
    go_wp2
    refine ⟨rfl, gives_bad _ _ ?_ KK.out⟩
    show resaleH ts = _
    unfold resaleH
    rw [then_of H1.out, then_of H2.out, then_of H4.out, then_bad HB.out]
  have V5 := Lib.hid (V4.out.kept k5 (fun h => by have : ib = bp := h; omega))
  have K5 := Lib.hid (K4.out.callB k5 (Or.inl rfl)); have A5 := Lib.hid a5; have H5 := Lib.hid h5; have hs5 := k5.size
  unfold ratioC
  clear h5 a5 k5  V4  K4 A4
  have cs0 := V5.out.cell (i := 6) rfl
  have cs1 := V5.out.cell (i := 7) rfl
  have cf := V5.out.free
  go_wp2
  go_end0
  refine gives_ok (⟨0, a, b, c, d⟩) r5 ?_ ⟨rfl, ((V5.out.set 6 (.int .i64 (c : Nat))).set 7 (.int .i64 (d : Nat)))⟩ (A5.out.kept (((Kp.refl (onlyB ib) _).setOld ib 6 rfl (.int .i64 (c : Nat))).setOld ib 7 rfl (.int .i64 (d : Nat))) (fun k hk => by have : k = ib := hk; omega)) ((K5.out.setOld ib 6 (Or.inr rfl) (.int .i64 (c : Nat))).setOld ib 7 (Or.inr rfl) (.int .i64 (d : Nat)))
  show resaleH ts = _
  unfold resaleH
  rw [then_of H1.out, then_of H2.out, then_of H4.out, then_of H5.out]
  rfl
set_option maxRecDepth 100000 in
set_option maxHeartbeats 2000000 in
theorem price_any (bp L ib kd pos : Nat) (nm : List UInt8) (v : Value) (ts : List TokP) (w : World) (h : At w bp L ts) (hI : Blk w ib 38 (itemCl kd nm v ⟨0, 0, 0, 0, 0⟩ pos)) (hb : bp < ib) : Calls Tryd.prog 58 #[.pointer (some ⟨bp, 0, none⟩), .pointer (some ⟨ib, 0, none⟩)] w (Gives bp L (twoB bp ib) w (priceH ts) (fun h e w' => e = .returned (.tuple #[]) ∧ Blk w' ib 38 (itemCl kd nm v h pos))) := by
  have K0 : Hid (Kp (twoB bp ib) w w) := Lib.hid (Kp.refl _ _)
  have A0 := Lib.hid h
  have V0 : Hid (Blk w ib 38 [.int .i64 (kd : Nat), .string ⟨nm.toArray⟩, v, .int .i64 0, .int .i64 0, .int .i64 0, .int .i64 0, .int .i64 0, .int .i64 (pos : Nat)]) := Lib.hid hI
  have hlt := hI.lt
  clear h hI
  go_enter Tryd.func58, Tryd.ntmps58
  go_wp2_with fail
  refine (number_any bp L ts _ A0.out).mono ?_
  rintro e W1 (⟨n, r1, h1, rfl, a1, k1⟩ | ⟨c1, r1, h1, rfl, k1⟩)
  rotate_left
  · have KK := Lib.hid (K0.out.callB k1 (Or.inl rfl)); have HB := Lib.hid h1
    clear h1 k1
    unfold failP
    go_wp2
    refine ⟨rfl, gives_bad _ _ ?_ KK.out⟩
    show priceH ts = _
    unfold priceH
    rw [then_bad HB.out]
  have V1 := Lib.hid (V0.out.kept k1 (fun h => by have : ib = bp := h; omega))
  have K1 := Lib.hid (K0.out.callB k1 (Or.inl rfl)); have A1 := Lib.hid a1; have H1 := Lib.hid h1; have hs1 := k1.size
  clear h1 a1 k1  V0  K0 A0
  have cs0 := V1.out.cell (i := 3) rfl
  have cf := V1.out.free
  go_upto_region 1 with fail
  have V2 : Blk (W1.setCell ⟨ib, 3, none⟩ (.int .i64 (n : Nat))) ib 38 [.int .i64 (kd : Nat), .string ⟨nm.toArray⟩, v, .int .i64 (n : Nat), .int .i64 0, .int .i64 0, .int .i64 0, .int .i64 0, .int .i64 (pos : Nat)] := (V1.out.set 3 (.int .i64 (n : Nat)))
  have K2 := (K1.out.setOld ib 3 (Or.inr rfl) (.int .i64 (n : Nat)))
  have A2 := A1.out.kept (E := onlyB ib) ((Kp.refl (onlyB ib) W1).setOld ib 3 rfl (.int .i64 (n : Nat))) (fun k hk => by have : k = ib := hk; omega)
  have hs2 : W1.heap.size ≤ (W1.setCell ⟨ib, 3, none⟩ (.int .i64 (n : Nat))).heap.size := by simp
  generalize W1.setCell ⟨ib, 3, none⟩ (.int .i64 (n : Nat)) = W2 at *
  have V2 := Lib.hid V2
  have K2 := Lib.hid K2; have A2 := Lib.hid A2
  clear cf cs0 V1  K1 A1
  go_wp2_with fail
  refine (ratioIf_any bp L wFee r1 _ A2.out).mono ?_
  rintro e W3 (⟨⟨a, b⟩, r3, h3, rfl, a3, k3⟩ | ⟨c3, r3, h3, rfl, k3⟩)
  rotate_left
  · have KK := Lib.hid (K2.out.callB k3 (Or.inl rfl)); have HB := Lib.hid h3
    clear h3 k3
    unfold failP
    go_wp2
    refine ⟨rfl, gives_bad _ _ ?_ KK.out⟩
    show priceH ts = _
    unfold priceH
    rw [then_of H1.out, then_bad HB.out]
  have V3 := Lib.hid (V2.out.kept k3 (fun h => by have : ib = bp := h; omega))
  have K3 := Lib.hid (K2.out.callB k3 (Or.inl rfl)); have A3 := Lib.hid a3; have H3 := Lib.hid h3; have hs3 := k3.size
  unfold ratioC
  clear h3 a3 k3  V2  K2 A2
  have cs0 := V3.out.cell (i := 4) rfl
  have cs1 := V3.out.cell (i := 5) rfl
  have cf := V3.out.free
  go_upto_region 2 with fail
  have V4 : Blk ((W3.setCell ⟨ib, 4, none⟩ (.int .i64 (a : Nat))).setCell ⟨ib, 5, none⟩ (.int .i64 (b : Nat))) ib 38 [.int .i64 (kd : Nat), .string ⟨nm.toArray⟩, v, .int .i64 (n : Nat), .int .i64 (a : Nat), .int .i64 (b : Nat), .int .i64 0, .int .i64 0, .int .i64 (pos : Nat)] := ((V3.out.set 4 (.int .i64 (a : Nat))).set 5 (.int .i64 (b : Nat)))
  have K4 := ((K3.out.setOld ib 4 (Or.inr rfl) (.int .i64 (a : Nat))).setOld ib 5 (Or.inr rfl) (.int .i64 (b : Nat)))
  have A4 := A3.out.kept (E := onlyB ib) (((Kp.refl (onlyB ib) W3).setOld ib 4 rfl (.int .i64 (a : Nat))).setOld ib 5 rfl (.int .i64 (b : Nat))) (fun k hk => by have : k = ib := hk; omega)
  have hs4 : W3.heap.size ≤ ((W3.setCell ⟨ib, 4, none⟩ (.int .i64 (a : Nat))).setCell ⟨ib, 5, none⟩ (.int .i64 (b : Nat))).heap.size := by simp
  generalize (W3.setCell ⟨ib, 4, none⟩ (.int .i64 (a : Nat))).setCell ⟨ib, 5, none⟩ (.int .i64 (b : Nat)) = W4 at *
  have V4 := Lib.hid V4
  have K4 := Lib.hid K4; have A4 := Lib.hid A4
  clear cf cs0 cs1 V3  K3 A3
  go_wp2_with fail
  refine (ratioIf_any bp L wTax r3 _ A4.out).mono ?_
  rintro e W5 (⟨⟨c, d⟩, r5, h5, rfl, a5, k5⟩ | ⟨c5, r5, h5, rfl, k5⟩)
  rotate_left
  · have KK := Lib.hid (K4.out.callB k5 (Or.inl rfl)); have HB := Lib.hid h5
    clear h5 k5
    unfold failP
    go_wp2
    refine ⟨rfl, gives_bad _ _ ?_ KK.out⟩
    show priceH ts = _
    unfold priceH
    rw [then_of H1.out, then_of H3.out, then_bad HB.out]
  have V5 := Lib.hid (V4.out.kept k5 (fun h => by have : ib = bp := h; omega))
  have K5 := Lib.hid (K4.out.callB k5 (Or.inl rfl)); have A5 := Lib.hid a5; have H5 := Lib.hid h5; have hs5 := k5.size
  unfold ratioC
  clear h5 a5 k5  V4  K4 A4
  have cs0 := V5.out.cell (i := 6) rfl
  have cs1 := V5.out.cell (i := 7) rfl
  have cf := V5.out.free
  go_wp2
  go_end0
  refine gives_ok (⟨n, a, b, c, d⟩) r5 ?_ ⟨rfl, ((V5.out.set 6 (.int .i64 (c : Nat))).set 7 (.int .i64 (d : Nat)))⟩ (A5.out.kept (((Kp.refl (onlyB ib) _).setOld ib 6 rfl (.int .i64 (c : Nat))).setOld ib 7 rfl (.int .i64 (d : Nat))) (fun k hk => by have : k = ib := hk; omega)) ((K5.out.setOld ib 6 (Or.inr rfl) (.int .i64 (c : Nat))).setOld ib 7 (Or.inr rfl) (.int .i64 (d : Nat)))
  show priceH ts = _
  unfold priceH
  rw [then_of H1.out, then_of H3.out, then_of H5.out]
  rfl
end Go.Proofs.YtlfjdohjfmfcdabDoor
