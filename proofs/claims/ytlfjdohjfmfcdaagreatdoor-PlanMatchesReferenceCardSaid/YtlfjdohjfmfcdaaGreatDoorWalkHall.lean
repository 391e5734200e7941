/-
  The walk of one item of a level.
-/
import Derived.Test.YtlfjdohjfmfcdaaGreatDoorWalkItems

/-! ## The walk of one item of a level. -/
namespace Go.Proofs.YtlfjdohjfmfcdaaGreatDoor
open Go.RowKit Go.Sort Go.Shelf Foyer.Plan Foyer.Round

theorem levelC_ent (args : Array Value) (w : World) : (callFunc 56 args).run Tryz.prog w = .ok (.enter 56 args) w := enters_of Tryz.func56 (by kernel_rfl) rfl args w
set_option maxRecDepth 100000 in
set_option maxHeartbeats 4000000 in
theorem levelC_any (bp L lb pb ib mb lvb ppb base : Nat) (ts : List TokP) (c0 c1 c7 v1 v2 v3 v4 v5 : Value) (is : List ItemP) (w : World) (hA : At w bp L ts) (hSt : LvSt w lb base c0 c1 c7 v1 v2 v3 v4 v5 is) (hB : Blk w pb 71 [.pointer (some ⟨bp, 0, none⟩)])
    (hI : Blk w ib 105 [.map (some mb)]) (hM : MapB w mb (itemsL lvb ppb) 5) (hL : Blk w lvb 107 [.pointer (some ⟨lb, 0, none⟩)]) (hP : Blk w ppb 71 [.pointer (some ⟨bp, 0, none⟩)])
    (hbw : base ≤ w.heap.size) (hlb : lb < base) (hlv : lvb < base) (hpp : ppb < base) (hbp : bp < base) (hbl : bp < lb) (hbv : bp < lvb) (hbq : bp < ppb) (hpq : lb < ppb) (hbm : bp < mb) (hbi : bp < ib) (hlen : is.length + 1 ≤ 1000000) (hts : ts.length ≤ 5000) :
    Calls Tryz.prog 56 #[.pointer (some ⟨pb, 0, none⟩), .pointer (some ⟨ib, 0, none⟩)] w fun e w' =>
      (∃ it r, itemP ts = .ok it r ∧ e = .returned (.tuple #[]) ∧ (∃ v1' v2' v3' v4' v5', LvSt w' lb base c0 c1 c7 v1' v2' v3' v4' v5' (is ++ [it])) ∧ At w' bp L r ∧ Kp (fun k => k = bp ∨ k = lb ∨ base ≤ k) w w') ∨ ∃ r, itemP ts = .bad r ∧ e = failP r L ∧ Kp (fun k => k = bp ∨ k = lb ∨ base ≤ k) w w' := by
  have hmf := makes_func
  have cB := hB.cell (i := 0) rfl
  have HA := Lib.hid hA; have HST := Lib.hid hSt; have HL := Lib.hid hL; have HP := Lib.hid hP; have HM := Lib.hid hM; have HI := Lib.hid hI
  clear hA hSt hL hP hM hI hB
  go_enter Tryz.func56, Tryz.ntmps56
  go_wp2_with fail
  refine (take_any bp L ts 57 levelT_ent #[.pointer (some ⟨ib, 0, none⟩)] (fun t => decide (sort t.text ≠ 0)) w HA.out (levelT_asks ib mb 5 lvb ppb _ w HI.out HM.out (fun h => h) (fun h => h))).mono ?_
  rintro e W1 (⟨t, s, h1, rfl, a1, k1⟩ | ⟨s, h1, rfl, k1⟩)
  rotate_left
  · have K1 := Lib.hid (k1.mono (E' := (fun k => k = bp ∨ k = lb ∨ base ≤ k)) (fun k hk => Or.inl hk)); have H1 := Lib.hid h1
    clear k1 h1
    unfold failP
    go_wp2
    exact ⟨rfl, Or.inr ⟨s, (show andThen _ _ ts = _ from then_bad H1.out), rfl, K1.out⟩⟩
  have hq := (takeP_ok h1).2
  have H1 := Lib.hid h1
  have o := (.cells #[.int .i64 (t.kind : Nat), .string ⟨t.text.toArray⟩, .int .i64 (t.val : Nat), .int .i64 (t.pos : Nat)] 67 : Obj)
  have st1 := HST.out.kept k1 (fun k hk => by have : k = bp := hk; omega)
  have st2 := st1.kept (E := fun _ => False) ((Kp.refl _ _).alloc (.cells #[.int .i64 (t.kind : Nat), .string ⟨t.text.toArray⟩, .int .i64 (t.val : Nat), .int .i64 (t.pos : Nat)] 67)) (fun _ h => h.elim)
  have l2 := (HL.out.kept k1 (fun h => by have : lvb = bp := h; omega)).alloc (.cells #[.int .i64 (t.kind : Nat), .string ⟨t.text.toArray⟩, .int .i64 (t.val : Nat), .int .i64 (t.pos : Nat)] 67)
  have p2 := (HP.out.kept k1 (fun h => by have : ppb = bp := h; omega)).alloc (.cells #[.int .i64 (t.kind : Nat), .string ⟨t.text.toArray⟩, .int .i64 (t.val : Nat), .int .i64 (t.pos : Nat)] 67)
  have i2 := (HI.out.kept k1 (fun h => by have : ib = bp := h; omega)).alloc (.cells #[.int .i64 (t.kind : Nat), .string ⟨t.text.toArray⟩, .int .i64 (t.val : Nat), .int .i64 (t.pos : Nat)] 67)
  have m2 := (HM.out.kept k1 (fun h => by have : mb = bp := h; omega)).kept (E := fun _ => False) ((Kp.refl _ _).alloc (.cells #[.int .i64 (t.kind : Nat), .string ⟨t.text.toArray⟩, .int .i64 (t.val : Nat), .int .i64 (t.pos : Nat)] 67)) (fun h => h)
  have a2 := a1.kept (E := fun _ => False) ((Kp.refl _ _).alloc (.cells #[.int .i64 (t.kind : Nat), .string ⟨t.text.toArray⟩, .int .i64 (t.val : Nat), .int .i64 (t.pos : Nat)] 67)) (fun _ h => h.elim)
  have k2 := (k1.mono (E' := (fun k => k = bp ∨ k = lb ∨ base ≤ k)) (fun k hk => Or.inl hk)).alloc (.cells #[.int .i64 (t.kind : Nat), .string ⟨t.text.toArray⟩, .int .i64 (t.val : Nat), .int .i64 (t.pos : Nat)] 67)
  have x2 := Blk.new W1 67 [.int .i64 (t.kind : Nat), .string ⟨t.text.toArray⟩, .int .i64 (t.val : Nat), .int .i64 (t.pos : Nat)]
  have hz2 : base ≤ (W1.alloc (.cells #[.int .i64 (t.kind : Nat), .string ⟨t.text.toArray⟩, .int .i64 (t.val : Nat), .int .i64 (t.pos : Nat)] 67)).heap.size := Nat.le_trans (Nat.le_trans hbw k1.size) (by simp)
  clear o st1 k1 a1 h1 HST HL HP HI HM HA cB
  unfold tkV
  go_upto_region 1 with fail
  generalize W1.alloc (.cells #[.int .i64 (t.kind : Nat), .string ⟨t.text.toArray⟩, .int .i64 (t.val : Nat), .int .i64 (t.pos : Nat)] 67) = W2 at *
  have hl := items_look _ m2 t.text
  have ci := i2.cell (i := 0) rfl
  have cx1 := x2.cell (i := 1) rfl
  have cx3 := x2.cell (i := 3) rfl
  have ST2 := Lib.hid st2; have L2 := Lib.hid l2; have P2 := Lib.hid p2; have A2 := Lib.hid a2; have K2 := Lib.hid k2
  clear st2 l2 p2 i2 m2 a2 k2 x2
  rcases sort_lt t.text with hk | hk | hk | hk | hk | hk
  · rw [hk] at hq; exact absurd hq (by decide)
  · -- 1
    have HS1 := Lib.hid hk
    rw [hk] at hl
    rw [show itemAt 1 lvb ppb = .func (.func 60) #[] #[.pointer (some ⟨lvb, 0, none⟩), .pointer (some ⟨ppb, 0, none⟩)] from rfl] at hl
    have hen := item1_ent
    clear hk
    go_wp2_with fail
    refine (item1_any bp L lb lvb ppb base t.pos s c0 c1 c7 v1 v2 v3 v4 v5 is W2 A2.out ST2.out L2.out P2.out hz2 hlb hlv hpp hbp hbl hbv hbq hlen (by have := shrink (det_take _) H1.out; omega)).mono ?_
    rintro e W3 (⟨it, q, h3, rfl, ⟨v', st⟩, a3, k3⟩ | ⟨q, h3, rfl, k3⟩)
    · have A3 := Lib.hid a3; have ST3 := Lib.hid st; have K3 := Lib.hid (K2.out.trans k3); have H3 := Lib.hid h3
      clear a3 st k3 h3 hl
      go_wp2
      go_end0
      refine Or.inl ⟨it, q, ?_, rfl, ⟨_, _, _, _, _, ST3.out⟩, A3.out, K3.out⟩
      show andThen _ _ ts = _
      rw [then_of H1.out, HS1.out, H3.out]
    · have K3 := Lib.hid (K2.out.trans k3); have H3 := Lib.hid h3
      clear k3 h3 hl
      unfold failP
      go_wp2
      refine ⟨rfl, Or.inr ⟨q, ?_, rfl, K3.out⟩⟩
      show andThen _ _ ts = _
      rw [then_of H1.out, HS1.out, H3.out]
  · -- 2
    have HS2 := Lib.hid hk
    rw [hk] at hl
    rw [show itemAt 2 lvb ppb = .func (.func 62) #[] #[.pointer (some ⟨lvb, 0, none⟩), .pointer (some ⟨ppb, 0, none⟩)] from rfl] at hl
    have hen := item2_ent
    clear hk
    go_wp2_with fail
    refine (item2_any bp L lb lvb ppb base t.pos s c0 c1 c7 v1 v2 v3 v4 v5 is W2 A2.out ST2.out L2.out P2.out hz2 hlb hlv hpp hbp hbl hbv hbq hlen).mono ?_
    rintro e W3 (⟨it, q, h3, rfl, ⟨v', st⟩, a3, k3⟩ | ⟨q, h3, rfl, k3⟩)
    · have A3 := Lib.hid a3; have ST3 := Lib.hid st; have K3 := Lib.hid (K2.out.trans k3); have H3 := Lib.hid h3
      clear a3 st k3 h3 hl
      go_wp2
      go_end0
      refine Or.inl ⟨it, q, ?_, rfl, ⟨_, _, _, _, _, ST3.out⟩, A3.out, K3.out⟩
      show andThen _ _ ts = _
      rw [then_of H1.out, HS2.out, H3.out]
    · have K3 := Lib.hid (K2.out.trans k3); have H3 := Lib.hid h3
      clear k3 h3 hl
      unfold failP
      go_wp2
      refine ⟨rfl, Or.inr ⟨q, ?_, rfl, K3.out⟩⟩
      show andThen _ _ ts = _
      rw [then_of H1.out, HS2.out, H3.out]
  · -- 3
    have HS3 := Lib.hid hk
    rw [hk] at hl
    rw [show itemAt 3 lvb ppb = .func (.func 64) #[] #[.pointer (some ⟨lvb, 0, none⟩), .pointer (some ⟨ppb, 0, none⟩)] from rfl] at hl
    have hen := item3_ent
    clear hk
    go_wp2_with fail
    refine (item3_any bp L lb lvb ppb base t.pos s c0 c1 c7 v1 v2 v3 v4 v5 is W2 A2.out ST2.out L2.out P2.out hz2 hlb hlv hpp hbp hbl hbv hbq (by omega) hlen).mono ?_
    rintro e W3 (⟨it, q, h3, rfl, ⟨v', st⟩, a3, k3⟩ | ⟨q, h3, rfl, k3⟩)
    · have A3 := Lib.hid a3; have ST3 := Lib.hid st; have K3 := Lib.hid (K2.out.trans k3); have H3 := Lib.hid h3
      clear a3 st k3 h3 hl
      go_wp2
      go_end0
      refine Or.inl ⟨it, q, ?_, rfl, ⟨_, _, _, _, _, ST3.out⟩, A3.out, K3.out⟩
      show andThen _ _ ts = _
      rw [then_of H1.out, HS3.out, H3.out]
    · have K3 := Lib.hid (K2.out.trans k3); have H3 := Lib.hid h3
      clear k3 h3 hl
      unfold failP
      go_wp2
      refine ⟨rfl, Or.inr ⟨q, ?_, rfl, K3.out⟩⟩
      show andThen _ _ ts = _
      rw [then_of H1.out, HS3.out, H3.out]
  · -- 4
    have HS4 := Lib.hid hk
    rw [hk] at hl
    rw [show itemAt 4 lvb ppb = .func (.func 66) #[] #[.pointer (some ⟨lvb, 0, none⟩), .pointer (some ⟨ppb, 0, none⟩)] from rfl] at hl
    have hen := item4_ent
    clear hk
    go_wp2_with fail
    refine (item4_any bp L lb lvb ppb base t.pos s c0 c1 c7 v1 v2 v3 v4 v5 is W2 A2.out ST2.out L2.out P2.out hz2 hlb hlv hpp hbp hbl hbv hbq (by omega) hlen).mono ?_
    rintro e W3 (⟨it, q, h3, rfl, ⟨v', st⟩, a3, k3⟩ | ⟨q, h3, rfl, k3⟩)
    · have A3 := Lib.hid a3; have ST3 := Lib.hid st; have K3 := Lib.hid (K2.out.trans k3); have H3 := Lib.hid h3
      clear a3 st k3 h3 hl
      go_wp2
      go_end0
      refine Or.inl ⟨it, q, ?_, rfl, ⟨_, _, _, _, _, ST3.out⟩, A3.out, K3.out⟩
      show andThen _ _ ts = _
      rw [then_of H1.out, HS4.out, H3.out]
    · have K3 := Lib.hid (K2.out.trans k3); have H3 := Lib.hid h3
      clear k3 h3 hl
      unfold failP
      go_wp2
      refine ⟨rfl, Or.inr ⟨q, ?_, rfl, K3.out⟩⟩
      show andThen _ _ ts = _
      rw [then_of H1.out, HS4.out, H3.out]
  · -- 5
    have HS5 := Lib.hid hk
    rw [hk] at hl
    rw [show itemAt 5 lvb ppb = .func (.func 67) #[] #[.pointer (some ⟨lvb, 0, none⟩), .pointer (some ⟨ppb, 0, none⟩)] from rfl] at hl
    have hen := item5_ent
    clear hk
    go_wp2_with fail
    refine (item5_any bp L lb lvb ppb base t.pos s c0 c1 c7 v1 v2 v3 v4 v5 is W2 A2.out ST2.out L2.out P2.out hz2 hlb hlv hpp hbp hbl hbv hbq (by omega) hlen).mono ?_
    rintro e W3 (⟨it, q, h3, rfl, ⟨v', st⟩, a3, k3⟩ | ⟨q, h3, rfl, k3⟩)
    · have A3 := Lib.hid a3; have ST3 := Lib.hid st; have K3 := Lib.hid (K2.out.trans k3); have H3 := Lib.hid h3
      clear a3 st k3 h3 hl
      go_wp2
      go_end0
      refine Or.inl ⟨it, q, ?_, rfl, ⟨_, _, _, _, _, ST3.out⟩, A3.out, K3.out⟩
      show andThen _ _ ts = _
      rw [then_of H1.out, HS5.out, H3.out]
    · have K3 := Lib.hid (K2.out.trans k3); have H3 := Lib.hid h3
      clear k3 h3 hl
      unfold failP
      go_wp2
      refine ⟨rfl, Or.inr ⟨q, ?_, rfl, K3.out⟩⟩
      show andThen _ _ ts = _
      rw [then_of H1.out, HS5.out, H3.out]
end Go.Proofs.YtlfjdohjfmfcdaaGreatDoor

/-! ## The walk of levels. -/
namespace Go.Proofs.YtlfjdohjfmfcdaaGreatDoor
open Go.RowKit Go.Sort Go.Shelf Foyer.Plan Foyer.Round

theorem LvSt.result {W : World} {lb base hh at_ : Nat} {nm : List UInt8} {v1 v2 v3 v4 v5 : Value} {is : List ItemP} (h : LvSt W lb base (.string ⟨nm.toArray⟩) (.int .i64 (hh : Nat)) (.int .i64 (at_ : Nat)) v1 v2 v3 v4 v5 is) {rb n : Nat} (hb : rb < base) (hn : n ≤ base) (vs : List Value) :
    LevelIs (W.setCells rb 0 vs) (fun k => n ≤ k) (levelCl (levelOf nm hh is at_) v1 v2 v3 v4 v5) (levelOf nm hh is at_) v1 v2 v3 v4 v5 := by
  have key : ∀ {β : Type} {K : Kind β} {T : TypeId} {v : Value} {xs : List β}, Building K W (Fv base [v1, v2, v3, v4, v5]) base T v xs → IsList K (W.setCells rb 0 vs) (fun k => n ≤ k) T v xs := fun hB => by
    have h2 : Building _ (W.setCells rb 0 vs) (fun k => base ≤ k) base _ _ _ := hB.kept (fun k hk => setCells_heap W rb vs (hB.lt hk).2 (by have := (hB.lt hk).1; omega)) (fun k hk hlt => setCells_heap W rb vs hlt (by have := hk.1; omega)) (fun k hk _ => hk.1)
    exact h2.done (fun k hk _ => Nat.le_trans hn hk) (fun k hk => Nat.le_trans hn hk)
  exact ⟨rfl, key h.b1, key h.b2, key h.b3, key h.b4, key h.b5⟩
set_option maxRecDepth 100000 in
set_option maxHeartbeats 4000000 in
theorem level_any (bp L : Nat) (ts : List TokP) (w : World) (hts : ts.length ≤ 5000) (h : At w bp L ts) : Calls Tryz.prog 38 #[.pointer (some ⟨bp, 0, none⟩)] w (Gives bp L (onlyB bp) w (levelP ts) (KindV levelK w.heap.size)) := by
  have hlt := h.lt
  have hmf := makes_func
  have P0 := (Blk.new w 71 [.pointer (some ⟨bp, 0, none⟩)]).alloc (.cells #[.string ⟨#[]⟩, .int .i64 0, .slice none 0 0, .slice none 0 0, .slice none 0 0, .slice none 0 0, .slice none 0 0, .int .i64 0] 38)
  have R0 := Blk.new (w.alloc (.cells #[.pointer (some ⟨bp, 0, none⟩)] 71)) 38 [.string ⟨#[]⟩, .int .i64 0, .slice none 0 0, .slice none 0 0, .slice none 0 0, .slice none 0 0, .slice none 0 0, .int .i64 0]
  rw [show (w.alloc (.cells #[.pointer (some ⟨bp, 0, none⟩)] 71)).heap.size = w.heap.size + 1 by simp] at R0
  have K0 : Kp (onlyB bp) w ((w.alloc (.cells #[.pointer (some ⟨bp, 0, none⟩)] 71)).alloc (.cells #[.string ⟨#[]⟩, .int .i64 0, .slice none 0 0, .slice none 0 0, .slice none 0 0, .slice none 0 0, .slice none 0 0, .int .i64 0] 38)) := ((Kp.refl _ _).alloc _).alloc _
  have A0 := h.kept (E := fun _ => False) (((Kp.refl _ w).alloc (.cells #[.pointer (some ⟨bp, 0, none⟩)] 71)).alloc (.cells #[.string ⟨#[]⟩, .int .i64 0, .slice none 0 0, .slice none 0 0, .slice none 0 0, .slice none 0 0, .slice none 0 0, .int .i64 0] 38)) (fun _ h => h.elim)
  have hs0 : w.heap.size + 2 ≤ ((w.alloc (.cells #[.pointer (some ⟨bp, 0, none⟩)] 71)).alloc (.cells #[.string ⟨#[]⟩, .int .i64 0, .slice none 0 0, .slice none 0 0, .slice none 0 0, .slice none 0 0, .slice none 0 0, .int .i64 0] 38)).heap.size := by simp
  clear h
  go_enter Tryz.func38, Tryz.ntmps38
  go_upto_region 1 with fail
  generalize (w.alloc (.cells #[.pointer (some ⟨bp, 0, none⟩)] 71)).alloc (.cells #[.string ⟨#[]⟩, .int .i64 0, .slice none 0 0, .slice none 0 0, .slice none 0 0, .slice none 0 0, .slice none 0 0, .int .i64 0] 38) = W0 at *
  have P0 := Lib.hid P0; have R0 := Lib.hid R0; have K0 := Lib.hid K0; have A0 := Lib.hid A0
  have cP0 := P0.out.cell (i := 0) rfl
  go_wp2_with fail
  refine (word_any bp L ts wLevel _ A0.out).mono ?_
  rintro e W1 (⟨at_, r1, h1, rfl, a1, k1⟩ | ⟨r1, h1, rfl, k1⟩)
  rotate_left
  · have KK := Lib.hid (K0.out.trans k1); have HB := Lib.hid h1
    clear h1 k1
    unfold failP
    go_wp2
    refine ⟨rfl, gives_bad _ ?_ KK.out⟩
    show levelP ts = _
    unfold levelP
    rw [then_bad HB.out]
  have P1 := Lib.hid (P0.out.kept k1 (fun h => by have : w.heap.size = bp := h; omega))
  have R1 := Lib.hid (R0.out.kept k1 (fun h => by have : (w.heap.size + 1) = bp := h; omega))
  have K1 := Lib.hid (K0.out.trans k1); have A1 := Lib.hid a1; have H1 := Lib.hid h1; have hs1 := k1.size
  clear h1 a1 k1 cP0 P0 R0 K0 A0
  go_upto_region 2 with fail
  have V2 := Blk.new W1 38 [.string ⟨#[]⟩, .int .i64 0, .slice none 0 0, .slice none 0 0, .slice none 0 0, .slice none 0 0, .slice none 0 0, .int .i64 (at_ : Nat)]
  have P2 := P1.out.alloc (.cells #[.string ⟨#[]⟩, .int .i64 0, .slice none 0 0, .slice none 0 0, .slice none 0 0, .slice none 0 0, .slice none 0 0, .int .i64 (at_ : Nat)] 38)
  have R2 := R1.out.alloc (.cells #[.string ⟨#[]⟩, .int .i64 0, .slice none 0 0, .slice none 0 0, .slice none 0 0, .slice none 0 0, .slice none 0 0, .int .i64 (at_ : Nat)] 38)
  have K2 := K1.out.alloc (.cells #[.string ⟨#[]⟩, .int .i64 0, .slice none 0 0, .slice none 0 0, .slice none 0 0, .slice none 0 0, .slice none 0 0, .int .i64 (at_ : Nat)] 38)
  have A2 := A1.out.kept (E := fun _ => False) ((Kp.refl _ _).alloc (.cells #[.string ⟨#[]⟩, .int .i64 0, .slice none 0 0, .slice none 0 0, .slice none 0 0, .slice none 0 0, .slice none 0 0, .int .i64 (at_ : Nat)] 38)) (fun _ h => h.elim)
  have hs2 : W1.heap.size < (W1.alloc (.cells #[.string ⟨#[]⟩, .int .i64 0, .slice none 0 0, .slice none 0 0, .slice none 0 0, .slice none 0 0, .slice none 0 0, .int .i64 (at_ : Nat)] 38)).heap.size := by simp
  generalize W1.alloc (.cells #[.string ⟨#[]⟩, .int .i64 0, .slice none 0 0, .slice none 0 0, .slice none 0 0, .slice none 0 0, .slice none 0 0, .int .i64 (at_ : Nat)] 38) = W2 at *
  generalize W1.heap.size = vb at *
  have P2 := Lib.hid P2
  have R2 := Lib.hid R2
  have V2 := Lib.hid V2
  have K2 := Lib.hid K2; have A2 := Lib.hid A2
  clear P1 R1 K1 A1
  have cP0 := P2.out.cell (i := 0) rfl
  go_wp2_with fail
  refine (name_any bp L r1 _ A2.out).mono ?_
  rintro e W3 (⟨nm, r3, h3, rfl, a3, k3⟩ | ⟨r3, h3, rfl, k3⟩)
  rotate_left
  · have KK := Lib.hid (K2.out.trans k3); have HB := Lib.hid h3
    clear h3 k3
    unfold failP
    go_wp2
    refine ⟨rfl, gives_bad _ ?_ KK.out⟩
    show levelP ts = _
    unfold levelP
    rw [then_of H1.out, then_bad HB.out]
  have P3 := Lib.hid (P2.out.kept k3 (fun h => by have : w.heap.size = bp := h; omega))
  have R3 := Lib.hid (R2.out.kept k3 (fun h => by have : (w.heap.size + 1) = bp := h; omega))
  have V3 := Lib.hid (V2.out.kept k3 (fun h => by have : vb = bp := h; omega))
  have K3 := Lib.hid (K2.out.trans k3); have A3 := Lib.hid a3; have H3 := Lib.hid h3; have hs3 := k3.size
  clear h3 a3 k3 cP0 P2 R2 V2 K2 A2
  have cs := V3.out.cell (i := 0) rfl
  have cf := V3.out.free 0
  go_upto_region 3 with fail
  have P4 := P3.out.other (p := ⟨vb, 0, none⟩) (by show ¬ vb = w.heap.size; omega) (.string ⟨nm.toArray⟩)
  have R4 := R3.out.other (p := ⟨vb, 0, none⟩) (by show ¬ vb = (w.heap.size + 1); omega) (.string ⟨nm.toArray⟩)
  have V4 : Blk (W3.setCell ⟨vb, 0, none⟩ (.string ⟨nm.toArray⟩)) vb 38 [.string ⟨nm.toArray⟩, .int .i64 0, .slice none 0 0, .slice none 0 0, .slice none 0 0, .slice none 0 0, .slice none 0 0, .int .i64 (at_ : Nat)] := V3.out.set 0 (.string ⟨nm.toArray⟩)
  have K4 := K3.out.setNew vb 0 (by omega) (.string ⟨nm.toArray⟩)
  have A4 := A3.out.kept (E := onlyB vb) ((Kp.refl (onlyB vb) W3).setOld vb 0 rfl (.string ⟨nm.toArray⟩)) (fun k hk => by have : k = vb := hk; omega)
  have hs4 : W3.heap.size ≤ (W3.setCell ⟨vb, 0, none⟩ (.string ⟨nm.toArray⟩)).heap.size := by simp
  generalize W3.setCell ⟨vb, 0, none⟩ (.string ⟨nm.toArray⟩) = W4 at *
  have P4 := Lib.hid P4
  have R4 := Lib.hid R4
  have V4 := Lib.hid V4
  have K4 := Lib.hid K4; have A4 := Lib.hid A4
  clear cs cf P3 R3 V3 K3 A3
  have cP0 := P4.out.cell (i := 0) rfl
  go_wp2_with fail
  refine (word_any bp L r3 wHeight _ A4.out).mono ?_
  rintro e W5 (⟨x2, r5, h5, rfl, a5, k5⟩ | ⟨r5, h5, rfl, k5⟩)
  rotate_left
  · have KK := Lib.hid (K4.out.trans k5); have HB := Lib.hid h5
    clear h5 k5
    unfold failP
    go_wp2
    refine ⟨rfl, gives_bad _ ?_ KK.out⟩
    show levelP ts = _
    unfold levelP
    rw [then_of H1.out, then_of H3.out, then_bad HB.out]
  have P5 := Lib.hid (P4.out.kept k5 (fun h => by have : w.heap.size = bp := h; omega))
  have R5 := Lib.hid (R4.out.kept k5 (fun h => by have : (w.heap.size + 1) = bp := h; omega))
  have V5 := Lib.hid (V4.out.kept k5 (fun h => by have : vb = bp := h; omega))
  have K5 := Lib.hid (K4.out.trans k5); have A5 := Lib.hid a5; have H5 := Lib.hid h5; have hs5 := k5.size
  clear h5 a5 k5 cP0 P4 R4 V4 K4 A4
  have cP0 := P5.out.cell (i := 0) rfl
  go_wp2_with fail
  refine (numbers1_any bp L r5 W5.heap.size vb 38 92 [.string ⟨nm.toArray⟩, .int .i64 0, .slice none 0 0, .slice none 0 0, .slice none 0 0, .slice none 0 0, .slice none 0 0, .int .i64 (at_ : Nat)] _ (A5.out.kept (E := fun _ => False) ((Kp.refl _ _).alloc _) (fun _ h => h.elim)) (V5.out.alloc _) (by omega) (by have := V5.out.lt; omega) (by have := A5.out.lt; omega) 1 (by simp) (Blk.new W5 _ [.pointer (some ⟨vb, 1, none⟩)])).mono ?_
  rintro e W6 (⟨hh, r6, h6, ⟨rfl, v6⟩, a6, k6⟩ | ⟨r6, h6, rfl, k6⟩)
  rotate_left
  · have KK := Lib.hid ((K5.out.alloc _).call k6 (fun k hk => hk.elim (fun h => Or.inl h) (fun h => Or.inr (by have : k = vb := h; omega)))); have HB := Lib.hid h6
    clear h6 k6
    unfold failP
    go_wp2
    refine ⟨rfl, gives_bad _ ?_ KK.out⟩
    show levelP ts = _
    unfold levelP
    rw [then_of H1.out, then_of H3.out, then_of H5.out, then_bad HB.out]
  have P6 := Lib.hid ((P5.out.alloc (.cells #[.pointer (some ⟨vb, 1, none⟩)] 92)).kept k6 (fun h => h.elim (fun h => by have : w.heap.size = bp := h; omega) (fun h => by have : w.heap.size = vb := h; omega)))
  have R6 := Lib.hid ((R5.out.alloc (.cells #[.pointer (some ⟨vb, 1, none⟩)] 92)).kept k6 (fun h => h.elim (fun h => by have : (w.heap.size + 1) = bp := h; omega) (fun h => by have : (w.heap.size + 1) = vb := h; omega)))
  have V6 : Hid (Blk W6 vb 38 [.string ⟨nm.toArray⟩, .int .i64 (hh : Nat), .slice none 0 0, .slice none 0 0, .slice none 0 0, .slice none 0 0, .slice none 0 0, .int .i64 (at_ : Nat)]) := Lib.hid v6
  have K6 := Lib.hid ((K5.out.alloc _).call k6 (fun k hk => hk.elim (fun h => Or.inl h) (fun h => Or.inr (by have : k = vb := h; omega)))); have A6 := Lib.hid a6; have H6 := Lib.hid h6
  have hs6 : W5.heap.size ≤ W6.heap.size := Nat.le_trans (by simp) k6.size
  clear h6 a6 k6 v6 cP0 P5 R5 V5 K5 A5
  have cP0 := P6.out.cell (i := 0) rfl
  go_wp2_with fail
  refine (word_any bp L r6 wOpen _ A6.out).mono ?_
  rintro e W7 (⟨x3, r7, h7, rfl, a7, k7⟩ | ⟨r7, h7, rfl, k7⟩)
  rotate_left
  · have KK := Lib.hid (K6.out.trans k7); have HB := Lib.hid h7
    clear h7 k7
    unfold failP
    go_wp2
    refine ⟨rfl, gives_bad _ ?_ KK.out⟩
    show levelP ts = _
    unfold levelP
    rw [then_of H1.out, then_of H3.out, then_of H5.out, then_of H6.out, then_bad HB.out]
  have P7 := Lib.hid (P6.out.kept k7 (fun h => by have : w.heap.size = bp := h; omega))
  have R7 := Lib.hid (R6.out.kept k7 (fun h => by have : (w.heap.size + 1) = bp := h; omega))
  have V7 := Lib.hid (V6.out.kept k7 (fun h => by have : vb = bp := h; omega))
  have K7 := Lib.hid (K6.out.trans k7); have A7 := Lib.hid a7; have H7 := Lib.hid h7; have hs7 := k7.size
  clear h7 a7 k7 cP0 P6 R6 V6 K6 A6
  have cP := P7.out.cell (i := 0) rfl
  go_wp2_with fail
  refine (itemsOf_any bp vb W7).mono ?_
  rintro e W8 ⟨rfl, k8, p8, l8, m8, z8⟩
  have P8 := Lib.hid (P7.out.kept k8 (fun h => h)); have R8 := Lib.hid (R7.out.kept k8 (fun h => h)); have V8 := Lib.hid (V7.out.kept k8 (fun h => h))
  have K8 := Lib.hid (K7.out.call k8 (fun _ h => h.elim)); have A8 := Lib.hid (A7.out.kept k8 (fun _ h => h.elim))
  have Q8 := Lib.hid p8; have D8 := Lib.hid l8
  have hql := A7.out.lt; have hqv := V7.out.lt
  clear p8 l8 k8 cP P7 R7 V7 K7 A7
  go_upto_region 7 with fail
  have mm := m8.kept (E := fun _ => False) ((Kp.refl _ _).alloc (.cells #[.map (some (W7.heap.size + 2))] 105)) (fun h => h)
  clear m8
  have I9 := Blk.new W8 105 [.map (some (W7.heap.size + 2))]
  have P9 := P8.out.alloc (.cells #[.map (some (W7.heap.size + 2))] 105)
  have R9 := R8.out.alloc (.cells #[.map (some (W7.heap.size + 2))] 105)
  have V9 := V8.out.alloc (.cells #[.map (some (W7.heap.size + 2))] 105)
  have Q9 := Q8.out.alloc (.cells #[.map (some (W7.heap.size + 2))] 105)
  have D9 := D8.out.alloc (.cells #[.map (some (W7.heap.size + 2))] 105)
  have K9 := K8.out.alloc (.cells #[.map (some (W7.heap.size + 2))] 105)
  have A9 := A8.out.kept (E := fun _ => False) ((Kp.refl _ _).alloc (.cells #[.map (some (W7.heap.size + 2))] 105)) (fun _ h => h.elim)
  have hs9 : W8.heap.size < (W8.alloc (.cells #[.map (some (W7.heap.size + 2))] 105)).heap.size := by simp
  generalize W8.alloc (.cells #[.map (some (W7.heap.size + 2))] 105) = W9 at *
  generalize W8.heap.size = ib at *
  have P9 := Lib.hid P9
  have R9 := Lib.hid R9
  have V9 := Lib.hid V9
  have Q9 := Lib.hid Q9
  have D9 := Lib.hid D9
  have I9 := Lib.hid I9
  have K9 := Lib.hid K9; have A9 := Lib.hid A9
  clear P8 R8 V8 Q8 D8 K8 A8
  have MM := Lib.hid mm
  clear mm
  have hln : r7.length ≤ 5000 := by
      have l0 := shrink (det_word _) H1.out
      have l1 := shrink det_name H3.out
      have l2 := shrink (det_word _) H5.out
      have l3 := shrink det_num H6.out
      have l4 := shrink (det_word _) H7.out
      omega
  have hpl := P9.out.lt; have hvl := V9.out.lt; have hbl := A9.out.lt; have hil := I9.out.lt; have hdl := D9.out.lt; have hqq := Q9.out.lt
  have cP := P9.out.cell (i := 0) rfl
  have st0 : LvSt W9 vb W9.heap.size (.string ⟨nm.toArray⟩) (.int .i64 (hh : Nat)) (.int .i64 (at_ : Nat)) (.slice none 0 0) (.slice none 0 0) (.slice none 0 0) (.slice none 0 0) (.slice none 0 0) [] :=
    ⟨V9.out, building_nil _ _ _ _ _, building_nil _ _ _ _ _, building_nil _ _ _ _ _, building_nil _ _ _ _ _, building_nil _ _ _ _ _, by unfold Apart; simp [Value.ownBlock]⟩
  have ST0 := Lib.hid st0
  clear st0
  go_wp2_with fail
  refine (until_any bp L wClose itemP eats_item 56 levelC_ent #[.pointer (some ⟨w.heap.size, 0, none⟩), .pointer (some ⟨ib, 0, none⟩)]
    (fun is W => ∃ v1 v2 v3 v4 v5, LvSt W vb W9.heap.size (.string ⟨nm.toArray⟩) (.int .i64 (hh : Nat)) (.int .i64 (at_ : Nat)) v1 v2 v3 v4 v5 is ∧ Kp (fun k => k = bp ∨ k = vb ∨ W9.heap.size ≤ k) W9 W)
    (fun W => Kp (fun k => k = bp ∨ k = vb ∨ W9.heap.size ≤ k) W9 W) ?keep ?fin 5000 ?step fuel r7 (by unfold fuel; omega) [] (by simpa using hln) W9 ⟨_, _, _, _, _, ST0.out, Kp.refl _ _⟩ A9.out).mono ?_
  case keep =>
    rintro is W W' ⟨v1, v2, v3, v4, v5, h1, h3⟩ hk
    exact ⟨v1, v2, v3, v4, v5, h1.kept hk (fun k hk => by have : k = bp := hk; omega), h3.call hk (fun k h => Or.inl (Or.inl h))⟩
  case fin =>
    rintro is W W' ⟨v1, v2, v3, v4, v5, h1, h3⟩ hk
    exact h3.call hk (fun k h => Or.inl (Or.inl h))
  case step =>
    rintro is W us ⟨v1, v2, v3, v4, v5, h1, h3⟩ hA hN
    refine (levelC_any bp L vb w.heap.size ib (W7.heap.size + 2) (W7.heap.size + 1) W7.heap.size W9.heap.size us (.string ⟨nm.toArray⟩) (.int .i64 (hh : Nat)) (.int .i64 (at_ : Nat)) v1 v2 v3 v4 v5 is W hA h1 (P9.out.kept h3 (fun h => by omega)) (I9.out.kept h3 (fun h => by omega)) (MM.out.kept h3 (fun h => by omega)) (D9.out.kept h3 (fun h => by omega)) (Q9.out.kept h3 (fun h => by omega)) h3.size
      (by omega) (by omega) (by omega) (by omega) (by omega) (by omega) (by omega) (by omega) (by omega) (by omega) (by omega) (by omega)).mono ?_
    rintro e W2 (⟨m, q, k1, rfl, ⟨v1', v2', v3', v4', v5', k2⟩, k4, k5⟩ | ⟨q, k1, rfl, k5⟩)
    · exact Or.inl ⟨m, q, k1, rfl, ⟨_, _, _, _, _, k2, h3.trans k5⟩, k4⟩
    · exact Or.inr ⟨q, k1, rfl, h3.trans k5⟩
  rintro e W10 (⟨is, r10, h10, rfl, ⟨v1, v2, v3, v4, v5, b10, k10⟩, a10⟩ | ⟨r10, h10, rfl, k10⟩)
  rotate_left
  · have KK := Lib.hid (K9.out.call k10 (fun k hk => by rcases hk with h | h | h; exact Or.inl h; exact Or.inr (by omega); exact Or.inr (by omega))); have HB := Lib.hid h10
    clear h10 k10
    unfold failP
    go_wp2
    refine ⟨rfl, gives_bad _ ?_ KK.out⟩
    show levelP ts = _
    unfold levelP
    rw [then_of H1.out, then_of H3.out, then_of H5.out, then_of H6.out, then_of H7.out, then_bad HB.out]
  obtain ⟨a1, n1, d1, rfl⟩ := b10.b1.slice
  obtain ⟨a2, n2, d2, rfl⟩ := b10.b2.slice
  obtain ⟨a3, n3, d3, rfl⟩ := b10.b3.slice
  obtain ⟨a4, n4, d4, rfl⟩ := b10.b4.slice
  obtain ⟨a5, n5, d5, rfl⟩ := b10.b5.slice
  have V10 := Lib.hid b10.blk; have R10 := Lib.hid (R9.out.kept k10 (fun h => by omega))
  have K10 := Lib.hid (K9.out.call k10 (fun k hk => by rcases hk with h | h | h; exact Or.inl h; exact Or.inr (by omega); exact Or.inr (by omega))); have A10 := Lib.hid a10; have H10 := Lib.hid h10; have HBU := Lib.hid b10; have hs10 := k10.size
  clear h10 a10 k10 b10 cP hln P9 R9 V9 K9 A9 I9 D9 Q9 MM ST0
  have x0 := V10.out.cell (i := 0) rfl
  have x1 := V10.out.cell (i := 1) rfl
  have x2 := V10.out.cell (i := 2) rfl
  have x3 := V10.out.cell (i := 3) rfl
  have x4 := V10.out.cell (i := 4) rfl
  have x5 := V10.out.cell (i := 5) rfl
  have x6 := V10.out.cell (i := 6) rfl
  have x7 := V10.out.cell (i := 7) rfl
  have z0 := R10.out.cell (i := 0) rfl
  have z1 := R10.out.cell (i := 1) rfl
  have z2 := R10.out.cell (i := 2) rfl
  have z3 := R10.out.cell (i := 3) rfl
  have z4 := R10.out.cell (i := 4) rfl
  have z5 := R10.out.cell (i := 5) rfl
  have z6 := R10.out.cell (i := 6) rfl
  have z7 := R10.out.cell (i := 7) rfl
  have zf := R10.out.free
  go_wp2
  rw [setCells_eight]
  refine bodyPost_ret (results_cell_mid rfl _ _ ((w.heap.size + 1)) [.string ⟨nm.toArray⟩, .int .i64 (hh : Nat), .slice a1 n1 d1, .slice a2 n2 d2, .slice a3 n3 d3, .slice a4 n4 d4, .slice a5 n5 d5, .int .i64 (at_ : Nat)] _ rfl (R10.out.whole (vs := [.string ⟨nm.toArray⟩, .int .i64 (hh : Nat), .slice a1 n1 d1, .slice a2 n2 d2, .slice a3 n3 d3, .slice a4 n4 d4, .slice a5 n5 d5, .int .i64 (at_ : Nat)]) rfl).range Tryz.underlying38 rfl (by kernel_rfl)) rfl ?_
  refine gives_ok (levelOf nm hh is at_) r10 ?_ ?_ (A10.out.result (by omega) _) (K10.out.result (by omega) _)
  · show levelP ts = _
    unfold levelP
    rw [then_of H1.out, then_of H3.out, then_of H5.out, then_of H6.out, then_of H7.out, then_of H10.out]
    rfl
  · exact ⟨_, rfl, _, _, _, _, _, HBU.out.result (by omega) (by omega) _⟩
end Go.Proofs.YtlfjdohjfmfcdaaGreatDoor

/-! ## The walk of halls. -/
namespace Go.Proofs.YtlfjdohjfmfcdaaGreatDoor
open Go.RowKit Go.Sort Go.Shelf Foyer.Plan Foyer.Round

theorem hallC_ent (args : Array Value) (w : World) : (callFunc 37 args).run Tryz.prog w = .ok (.enter 37 args) w := enters_of Tryz.func37 (by kernel_rfl) rfl args w
theorem hallC_info : (Tryz.prog.info? 38).map (fun i => (i.zero, i.size, i.bytes)) = some (some (.agg #[.string ⟨#[]⟩, .int .i64 0, .slice none 0 0, .slice none 0 0, .slice none 0 0, .slice none 0 0, .slice none 0 0, .int .i64 0]), levelK.size, 152) := by kernel_rfl
set_option linter.unusedSimpArgs false in
set_option maxRecDepth 100000 in
set_option maxHeartbeats 2000000 in
theorem hallC_any (bp L vb pb base : Nat) (ts : List TokP) (nm x y v : Value) (ms : List LevelP) (w : World) (hA : At w bp L ts) (hV : Blk w vb 27 [nm, x, y, v]) (hP : Blk w pb 71 [.pointer (some ⟨bp, 0, none⟩)])
    (hB : Building levelK w (fun k => base ≤ k ∧ v.ownBlock ≠ some k) base 38 v ms) (hbw : base ≤ w.heap.size) (hvb : vb < base) (hpb : pb < base) (hbp : bp < base) (hbv : bp < vb) (hbpb : bp ≠ pb) (hlen : ms.length + 1 ≤ 1000000) (hts : ts.length ≤ 5000) :
    Calls Tryz.prog 37 #[.pointer (some ⟨vb, 0, none⟩), .pointer (some ⟨pb, 0, none⟩)] w fun e w' =>
      (∃ m r, levelP ts = .ok m r ∧ e = .returned (.tuple #[]) ∧ (∃ v', Blk w' vb 27 [nm, x, y, v'] ∧ Building levelK w' (fun k => base ≤ k ∧ v'.ownBlock ≠ some k) base 38 v' (ms ++ [m])) ∧ At w' bp L r ∧ Kp (fun k => k = bp ∨ k = vb ∨ base ≤ k) w w') ∨ ∃ r, levelP ts = .bad r ∧ e = failP r L ∧ Kp (fun k => k = bp ∨ k = vb ∨ base ≤ k) w w' := by
  have HA := Lib.hid hA; have HB := Lib.hid hB; have HV := Lib.hid hV; have HP := Lib.hid hP
  clear hA hB hV hP
  go_enter Tryz.func37, Tryz.ntmps37
  refine wp_region_any (by kernel_rfl) ?_
  have hS0 : Blk w.drew vb 27 [nm, x, y, v] ∧ Blk w.drew pb 71 [.pointer (some ⟨bp, 0, none⟩)] := ⟨HV.out, HP.out⟩
  have hA0 : At w.drew bp L ts := HA.out.kept (E := fun _ => False) (Kp.refl _ _).drew (fun _ h => h.elim)
  have hK0 : Kp (fun k => k = bp ∨ k = vb ∨ base ≤ k) w w.drew := (Kp.refl _ _).drew
  have hB0 : Building levelK w.drew (fun k => base ≤ k ∧ v.ownBlock ≠ some k) base 38 v ms := HB.out.kept (fun _ _ => rfl) (fun _ _ _ => rfl) (fun _ h _ => h)
  have hz0 : base ≤ w.drew.heap.size := hbw
  refine any_of_held (S := fun W => Blk W vb 27 [nm, x, y, v] ∧ Blk W pb 71 [.pointer (some ⟨bp, 0, none⟩)]) (N := [5, 6, 7]) _ _ _ _ ?_
  change held _ _ _ _ _ _ _ _ _ w.drew
  obtain ⟨wa, hwa⟩ : ∃ wa, w.drew = wa := ⟨_, rfl⟩
  rw [hwa] at hS0 hA0 hK0 hB0 hz0 ⊢
  have HK0 := Lib.hid hK0; have HA0 := Lib.hid hA0; have HB0 := Lib.hid hB0
  clear hK0 hA0 hB0 hwa HA HB HV HP
  refine held_take [1, 5, 6, 7] (i := 0) (v := .pointer (some ⟨vb, 3, none⟩)) rfl (by kernel_rfl) (fun _ _ _ h => h) (Or.inl ⟨by rfl, fun w' hS => by go_simp⟩) hS0 ?_
  try simp only [Act.put, List.setIfInBounds_toArray, List.set_cons_zero, List.set_cons_succ]
  refine held_take [5, 6, 7] (i := 1) (v := v) rfl (by kernel_rfl) (fun _ _ _ h => h) (Or.inl ⟨by rfl, fun w' hS => by have hc := hS.1.cell (i := 3) rfl; go_simp⟩) hS0 ?_
  try simp only [Act.put, List.setIfInBounds_toArray, List.set_cons_zero, List.set_cons_succ]
  refine held_take [3, 4, 5, 6, 7] (i := 2) (v := .pointer (some ⟨bp, 0, none⟩)) rfl (by kernel_rfl) (fun _ _ _ h => h) (Or.inl ⟨by rfl, fun w' hS => by have hc := hS.2.cell (i := 0) rfl; go_simp⟩) hS0 ?_
  try simp only [Act.put, List.setIfInBounds_toArray, List.set_cons_zero, List.set_cons_succ]
  refine held_one (i := 3) rfl (by kernel_rfl) (fun K hK => ?_)
  go_simp
  refine (level_any bp L ts wa hts HA0.out).mono ?_
  rintro e W1 (⟨m, r, h1, ⟨c, rfl, hc⟩, a1, k1⟩ | ⟨r, h1, rfl, k1⟩)
  rotate_left
  · unfold failP
    exact ⟨rfl, Or.inr ⟨r, h1, rfl, HK0.out.call k1 (fun k hk => Or.inl (Or.inl hk))⟩⟩
  have hS1 : Blk W1 vb 27 [nm, x, y, v] ∧ Blk W1 pb 71 [.pointer (some ⟨bp, 0, none⟩)] := ⟨hS0.1.kept k1 (fun h => by have : vb = bp := h; omega), hS0.2.kept k1 (fun h => hbpb h.symm)⟩
  have hz1' : base ≤ W1.heap.size := Nat.le_trans hz0 k1.size
  have hb1 : Building levelK W1 (fun k => base ≤ k ∧ v.ownBlock ≠ some k) base 38 v ms := HB0.out.kept (fun k hk => k1.block k (HB0.out.lt hk).2 (fun h => by have h2 := (HB0.out.lt hk).1; have : k = bp := h; omega)) (fun k hk hlt => k1.block k hlt (fun h => by have h2 := hk.1; have : k = bp := h; omega)) (fun _ h _ => h)
  have hsz1 := k1.size
  have hown : ∀ k, v.ownBlock = some k → k < wa.heap.size := fun k hk => (HB0.out.lt hk).2
  have K1 := Lib.hid (HK0.out.call k1 (fun k hk => Or.inl (Or.inl hk))); have A1 := Lib.hid a1; have H1 := Lib.hid h1; have HB1 := Lib.hid hb1; have HOW := Lib.hid hown
  clear a1 k1 h1 hb1 hown HB0 HK0 HA0
  obtain ⟨v1, v2, v3, v4, v5, hl0⟩ := hc
  obtain rfl := hl0.cells
  obtain ⟨a1, n1, c1, rfl⟩ := hl0.blocks.slice
  obtain ⟨a2, n2, c2, rfl⟩ := hl0.areas.slice
  obtain ⟨a3, n3, c3, rfl⟩ := hl0.aisles.slice
  obtain ⟨a4, n4, c4, rfl⟩ := hl0.pillars.slice
  obtain ⟨a5, n5, c5, rfl⟩ := hl0.doors.slice
  unfold levelCl
  have hc : levelK.is W1 (fun k => wa.heap.size ≤ k) (levelCl m (.slice a1 n1 c1) (.slice a2 n2 c2) (.slice a3 n3 c3) (.slice a4 n4 c4) (.slice a5 n5 c5)) m := ⟨_, _, _, _, _, hl0⟩
  clear hl0
  refine hK.out _ _ (fun _ => hS1) ?_
  clear hK K
  try simp only [Act.put, List.setIfInBounds_toArray, List.set_cons_zero, List.set_cons_succ]
  refine held_one (i := 4) rfl (by kernel_rfl) (fun K hK => ?_)
  go_simp
  refine hK.out _ _ (fun _ => ⟨hS1.1.alloc _, hS1.2.alloc _⟩) ?_
  clear hK K
  try simp only [Act.put, List.setIfInBounds_toArray, List.set_cons_zero, List.set_cons_succ]
  refine held_one (i := 5) rfl (by kernel_rfl) (fun K hK => ?_)
  rw [if_pos (by kernel_rfl)]
  obtain ⟨i0, hi, hz0', hz1, hz2⟩ := info_parts hallC_info
  obtain ⟨css, hcon, hall⟩ := HB1.out
  refine con_append (t := 25) (T := 38) (m := levelK.size) (B := base) Tryz.underlying25 hi hz0' hz1 hz2 rfl (by decide) (by decide) (.tmp 3) (.tmp 6) rfl v css (levelCl m (.slice a1 n1 c1) (.slice a2 n2 c2) (.slice a3 n3 c3) (.slice a4 n4 c4) (.slice a5 n5 c5)) rfl (hcon.of_block (fun k hk => Below.heap_alloc _ _ _ (by have := HOW.out k hk; omega))) W1.heap.size rfl (Blk.new W1 38 (levelCl m (.slice a1 n1 c1) (.slice a2 n2 c2) (.slice a3 n3 c3) (.slice a4 n4 c4) (.slice a5 n5 c5))) (levelK.len hc) (levelK.one hc) (by rw [All2.length hall]; exact hlen) (by rw [World.size_alloc]; omega) ?_
  intro v' W2 hcon' hg hat hone
  obtain ⟨g, cap, cur, rfl, hgb, hgl, _⟩ : ∃ g cap cur, v' = .slice (some ⟨g, 0, none⟩) (css ++ [(levelCl m (.slice a1 n1 c1) (.slice a2 n2 c2) (.slice a3 n3 c3) (.slice a4 n4 c4) (.slice a5 n5 c5))]).length cap ∧ base ≤ g ∧ g < W2.heap.size ∧ W2.heap[g]? = some (.cells cur 38 (0, 0)) := by
    rcases hcon'.form with ⟨_, h⟩ | ⟨g, cap, cur, h1, h2, h3, h4, _⟩
    · simp at h
    · exact ⟨g, cap, cur, h1, h2, h3, h4⟩
  have hgr : ∀ k, k < W1.heap.size → v.ownBlock ≠ some k → W2.heap[k]? = W1.heap[k]? := fun k hk hn => (hg.block k (by rw [World.size_alloc]; omega) (fun h => hn h.symm)).trans (Below.heap_alloc _ _ _ hk)
  have hnv : v.ownBlock ≠ some vb := fun h => by have := (own_lt hcon.own h).1; omega
  have hnp : v.ownBlock ≠ some pb := fun h => by have := (own_lt hcon.own h).1; omega
  have hnb : v.ownBlock ≠ some bp := fun h => by have := (own_lt hcon.own h).1; omega
  have hS2 : Blk W2 vb 27 [nm, x, y, v] := (hgr vb (by omega) hnv).trans hS1.1
  have K2 : Kp (fun k => k = bp ∨ k = vb ∨ base ≤ k) w W2 := (K1.out.alloc (.cells ((levelCl m (.slice a1 n1 c1) (.slice a2 n2 c2) (.slice a3 n3 c3) (.slice a4 n4 c4) (.slice a5 n5 c5))).toArray 38)).grown hg (fun k hk => Or.inl (Or.inr (Or.inr (own_lt hcon.own hk).1)))
  have A2 : At W2 bp L r := A1.out.kept (E := fun k => base ≤ k) (((Kp.refl _ W1).alloc (.cells ((levelCl m (.slice a1 n1 c1) (.slice a2 n2 c2) (.slice a3 n3 c3) (.slice a4 n4 c4) (.slice a5 n5 c5))).toArray 38)).grown hg (fun k hk => Or.inl (own_lt hcon.own hk).1)) (fun k hk => by have : base ≤ k := hk; omega)
  have hg' : v.ownBlock = some g ∨ g = W1.heap.size + 1 := by
    rcases hat with h | h
    · exact Or.inl h.symm
    · exact Or.inr (by simpa [Value.ownBlock] using h)
  have hall2 : All2 (levelK.is W2 (fun k => base ≤ k ∧ (Value.slice (some ⟨g, 0, none⟩) (css ++ [(levelCl m (.slice a1 n1 c1) (.slice a2 n2 c2) (.slice a3 n3 c3) (.slice a4 n4 c4) (.slice a5 n5 c5))]).length cap).ownBlock ≠ some k)) (css ++ [(levelCl m (.slice a1 n1 c1) (.slice a2 n2 c2) (.slice a3 n3 c3) (.slice a4 n4 c4) (.slice a5 n5 c5))]) (ms ++ [m]) := by
    refine All2.snoc (All2.imp hall fun b x h => levelK.moved h (fun k hk hlt => hgr k hlt hk.2) (fun k hk hlt => ⟨hk.1, fun e => ?_⟩)) (levelK.moved hc (fun k hk hlt => hgr k hlt (fun e => by have := HOW.out k e; have : wa.heap.size ≤ k := hk; omega)) (fun k hk hlt => ⟨by have : wa.heap.size ≤ k := hk; omega, fun e => ?_⟩))
    · have e' : g = k := by simpa [Value.ownBlock] using e
      subst e'
      rcases hg' with h | h
      · have := HOW.out g h; have : wa.heap.size ≤ g := hk; omega
      · omega
    · have e' : g = k := by simpa [Value.ownBlock] using e
      subst e'
      rcases hg' with h | h
      · exact hk.2 h
      · omega
  have HS2 := Lib.hid hS2; have HK2 := Lib.hid K2; have HA2 := Lib.hid A2; have HC2 := Lib.hid hcon'; have HALL := Lib.hid hall2
  have hc2 := hS2.cell (i := 3) rfl
  have hf2 := hS2.free 3
  clear hS2 K2 A2 hcon' hall2 hgr hg hat hg' hcon hall hc hS0 hS1
  generalize (css ++ [(levelCl m (.slice a1 n1 c1) (.slice a2 n2 c2) (.slice a3 n3 c3) (.slice a4 n4 c4) (.slice a5 n5 c5))]).length = n2 at *
  refine hK.out _ _ (fun h => absurd (by decide) h) ?_
  clear hK K
  try simp only [Act.put, List.setIfInBounds_toArray, List.set_cons_zero, List.set_cons_succ]
  refine held_one (i := 6) rfl (by kernel_rfl) (fun K hK => ?_)
  go_simp
  refine hK.out _ _ (fun h => absurd (by decide) h) ?_
  clear hK K
  try simp only [Act.put, List.setIfInBounds_toArray, List.set_cons_zero, List.set_cons_succ]
  refine held_one (i := 7) rfl (by kernel_rfl) (fun K hK => ?_)
  go_simp
  refine hK.out _ _ (fun h => absurd (by decide) h) ?_
  clear hK K
  try simp only [Act.put, List.setIfInBounds_toArray, List.set_cons_zero, List.set_cons_succ]
  refine held_done (by kernel_rfl) ?_ _
  go_end0
  refine Or.inl ⟨m, r, H1.out, rfl, ⟨_, HS2.out.set 3 (.slice (some ⟨g, 0, none⟩) n2 cap), ?_⟩, ?_, HK2.out.setOld vb 3 (Or.inr (Or.inl rfl)) _⟩
  rotate_left
  · exact HA2.out.kept (E := onlyB vb) ((Kp.refl (onlyB vb) W2).setOld vb 3 rfl _) (fun k hk => by have : k = vb := hk; omega)
  have hne : ∀ k, base ≤ k → (W2.setCell ⟨vb, 3, none⟩ (.slice (some ⟨g, 0, none⟩) n2 cap)).heap[k]? = W2.heap[k]? := fun k hk => Below.heap_setCell _ _ _ _ (by show k ≠ vb; omega)
  have hbu : Building levelK W2 (fun k => base ≤ k ∧ (Value.slice (some ⟨g, 0, none⟩) n2 cap).ownBlock ≠ some k) base 38 (.slice (some ⟨g, 0, none⟩) n2 cap) (ms ++ [m]) := ⟨_, HC2.out, HALL.out⟩
  exact hbu.kept (fun k hk => hne k (own_lt HC2.out.own hk).1) (fun k hk _ => hne k hk.1) (fun _ h _ => h)
set_option maxRecDepth 100000 in
set_option maxHeartbeats 4000000 in
theorem hall_any (bp L : Nat) (ts : List TokP) (w : World) (hts : ts.length ≤ 5000) (h : At w bp L ts) : Calls Tryz.prog 20 #[.pointer (some ⟨bp, 0, none⟩)] w (Gives bp L (onlyB bp) w (hallP ts) (KindV hallK w.heap.size)) := by
  have hlt := h.lt
  have hmf := makes_func
  have P0 := (Blk.new w 71 [.pointer (some ⟨bp, 0, none⟩)]).alloc (.cells #[.string ⟨#[]⟩, .int .i64 0, .int .i64 0, .slice none 0 0] 27)
  have R0 := Blk.new (w.alloc (.cells #[.pointer (some ⟨bp, 0, none⟩)] 71)) 27 [.string ⟨#[]⟩, .int .i64 0, .int .i64 0, .slice none 0 0]
  rw [show (w.alloc (.cells #[.pointer (some ⟨bp, 0, none⟩)] 71)).heap.size = w.heap.size + 1 by simp] at R0
  have K0 : Kp (onlyB bp) w ((w.alloc (.cells #[.pointer (some ⟨bp, 0, none⟩)] 71)).alloc (.cells #[.string ⟨#[]⟩, .int .i64 0, .int .i64 0, .slice none 0 0] 27)) := ((Kp.refl _ _).alloc _).alloc _
  have A0 := h.kept (E := fun _ => False) (((Kp.refl _ w).alloc (.cells #[.pointer (some ⟨bp, 0, none⟩)] 71)).alloc (.cells #[.string ⟨#[]⟩, .int .i64 0, .int .i64 0, .slice none 0 0] 27)) (fun _ h => h.elim)
  have hs0 : w.heap.size + 2 ≤ ((w.alloc (.cells #[.pointer (some ⟨bp, 0, none⟩)] 71)).alloc (.cells #[.string ⟨#[]⟩, .int .i64 0, .int .i64 0, .slice none 0 0] 27)).heap.size := by simp
  clear h
  go_enter Tryz.func20, Tryz.ntmps20
  go_upto_region 1 with fail
  generalize (w.alloc (.cells #[.pointer (some ⟨bp, 0, none⟩)] 71)).alloc (.cells #[.string ⟨#[]⟩, .int .i64 0, .int .i64 0, .slice none 0 0] 27) = W0 at *
  have P0 := Lib.hid P0; have R0 := Lib.hid R0; have K0 := Lib.hid K0; have A0 := Lib.hid A0
  have cP0 := P0.out.cell (i := 0) rfl
  go_wp2_with fail
  refine (word_any bp L ts wHall _ A0.out).mono ?_
  rintro e W1 (⟨x1, r1, h1, rfl, a1, k1⟩ | ⟨r1, h1, rfl, k1⟩)
  rotate_left
  · have KK := Lib.hid (K0.out.trans k1); have HB := Lib.hid h1
    clear h1 k1
    unfold failP
    go_wp2
    refine ⟨rfl, gives_bad _ ?_ KK.out⟩
    show hallP ts = _
    unfold hallP
    rw [then_bad HB.out]
  have P1 := Lib.hid (P0.out.kept k1 (fun h => by have : w.heap.size = bp := h; omega))
  have R1 := Lib.hid (R0.out.kept k1 (fun h => by have : (w.heap.size + 1) = bp := h; omega))
  have K1 := Lib.hid (K0.out.trans k1); have A1 := Lib.hid a1; have H1 := Lib.hid h1; have hs1 := k1.size
  clear h1 a1 k1 cP0 P0 R0 K0 A0
  have cP0 := P1.out.cell (i := 0) rfl
  go_wp2_with fail
  refine (name_any bp L r1 _ A1.out).mono ?_
  rintro e W2 (⟨nm, r2, h2, rfl, a2, k2⟩ | ⟨r2, h2, rfl, k2⟩)
  rotate_left
  · have KK := Lib.hid (K1.out.trans k2); have HB := Lib.hid h2
    clear h2 k2
    unfold failP
    go_wp2
    refine ⟨rfl, gives_bad _ ?_ KK.out⟩
    show hallP ts = _
    unfold hallP
    rw [then_of H1.out, then_bad HB.out]
  have P2 := Lib.hid (P1.out.kept k2 (fun h => by have : w.heap.size = bp := h; omega))
  have R2 := Lib.hid (R1.out.kept k2 (fun h => by have : (w.heap.size + 1) = bp := h; omega))
  have K2 := Lib.hid (K1.out.trans k2); have A2 := Lib.hid a2; have H2 := Lib.hid h2; have hs2 := k2.size
  clear h2 a2 k2 cP0 P1 R1 K1 A1
  go_upto_region 3 with fail
  have V3 := Blk.new W2 27 [.string ⟨nm.toArray⟩, .int .i64 0, .int .i64 0, .slice none 0 0]
  have P3 := P2.out.alloc (.cells #[.string ⟨nm.toArray⟩, .int .i64 0, .int .i64 0, .slice none 0 0] 27)
  have R3 := R2.out.alloc (.cells #[.string ⟨nm.toArray⟩, .int .i64 0, .int .i64 0, .slice none 0 0] 27)
  have K3 := K2.out.alloc (.cells #[.string ⟨nm.toArray⟩, .int .i64 0, .int .i64 0, .slice none 0 0] 27)
  have A3 := A2.out.kept (E := fun _ => False) ((Kp.refl _ _).alloc (.cells #[.string ⟨nm.toArray⟩, .int .i64 0, .int .i64 0, .slice none 0 0] 27)) (fun _ h => h.elim)
  have hs3 : W2.heap.size < (W2.alloc (.cells #[.string ⟨nm.toArray⟩, .int .i64 0, .int .i64 0, .slice none 0 0] 27)).heap.size := by simp
  generalize W2.alloc (.cells #[.string ⟨nm.toArray⟩, .int .i64 0, .int .i64 0, .slice none 0 0] 27) = W3 at *
  generalize W2.heap.size = vb at *
  have P3 := Lib.hid P3
  have R3 := Lib.hid R3
  have V3 := Lib.hid V3
  have K3 := Lib.hid K3; have A3 := Lib.hid A3
  clear P2 R2 K2 A2
  have cP0 := P3.out.cell (i := 0) rfl
  go_wp2_with fail
  refine (word_any bp L r2 wStage _ A3.out).mono ?_
  rintro e W4 (⟨x2, r4, h4, rfl, a4, k4⟩ | ⟨r4, h4, rfl, k4⟩)
  rotate_left
  · have KK := Lib.hid (K3.out.trans k4); have HB := Lib.hid h4
    clear h4 k4
    unfold failP
    go_wp2
    refine ⟨rfl, gives_bad _ ?_ KK.out⟩
    show hallP ts = _
    unfold hallP
    rw [then_of H1.out, then_of H2.out, then_bad HB.out]
  have P4 := Lib.hid (P3.out.kept k4 (fun h => by have : w.heap.size = bp := h; omega))
  have R4 := Lib.hid (R3.out.kept k4 (fun h => by have : (w.heap.size + 1) = bp := h; omega))
  have V4 := Lib.hid (V3.out.kept k4 (fun h => by have : vb = bp := h; omega))
  have K4 := Lib.hid (K3.out.trans k4); have A4 := Lib.hid a4; have H4 := Lib.hid h4; have hs4 := k4.size
  clear h4 a4 k4 cP0 P3 R3 V3 K3 A3
  have cP0 := P4.out.cell (i := 0) rfl
  go_wp2_with fail
  refine (numbers2_any bp L r4 W4.heap.size vb 27 92 [.string ⟨nm.toArray⟩, .int .i64 0, .int .i64 0, .slice none 0 0] _ (A4.out.kept (E := fun _ => False) ((Kp.refl _ _).alloc _) (fun _ h => h.elim)) (V4.out.alloc _) (by omega) (by have := V4.out.lt; omega) (by have := A4.out.lt; omega) 1 2 (by simp) (by simp) (Blk.new W4 _ [.pointer (some ⟨vb, 1, none⟩), .pointer (some ⟨vb, 2, none⟩)])).mono ?_
  rintro e W5 (⟨xy, r5, h5, ⟨rfl, v5⟩, a5, k5⟩ | ⟨r5, h5, rfl, k5⟩)
  rotate_left
  · have KK := Lib.hid ((K4.out.alloc _).call k5 (fun k hk => hk.elim (fun h => Or.inl h) (fun h => Or.inr (by have : k = vb := h; omega)))); have HB := Lib.hid h5
    clear h5 k5
    unfold failP
    go_wp2
    refine ⟨rfl, gives_bad _ ?_ KK.out⟩
    show hallP ts = _
    unfold hallP
    rw [then_of H1.out, then_of H2.out, then_of H4.out, point_bad HB.out]
  have P5 := Lib.hid ((P4.out.alloc (.cells #[.pointer (some ⟨vb, 1, none⟩), .pointer (some ⟨vb, 2, none⟩)] 92)).kept k5 (fun h => h.elim (fun h => by have : w.heap.size = bp := h; omega) (fun h => by have : w.heap.size = vb := h; omega)))
  have R5 := Lib.hid ((R4.out.alloc (.cells #[.pointer (some ⟨vb, 1, none⟩), .pointer (some ⟨vb, 2, none⟩)] 92)).kept k5 (fun h => h.elim (fun h => by have : (w.heap.size + 1) = bp := h; omega) (fun h => by have : (w.heap.size + 1) = vb := h; omega)))
  have V5 : Hid (Blk W5 vb 27 [.string ⟨nm.toArray⟩, .int .i64 (xy.1 : Nat), .int .i64 (xy.2 : Nat), .slice none 0 0]) := Lib.hid v5
  have K5 := Lib.hid ((K4.out.alloc _).call k5 (fun k hk => hk.elim (fun h => Or.inl h) (fun h => Or.inr (by have : k = vb := h; omega)))); have A5 := Lib.hid a5; have H5 := Lib.hid h5
  have hs5 : W4.heap.size ≤ W5.heap.size := Nat.le_trans (by simp) k5.size
  clear h5 a5 k5 v5 cP0 P4 R4 V4 K4 A4
  have cP0 := P5.out.cell (i := 0) rfl
  go_wp2_with fail
  refine (word_any bp L r5 wOpen _ A5.out).mono ?_
  rintro e W6 (⟨x3, r6, h6, rfl, a6, k6⟩ | ⟨r6, h6, rfl, k6⟩)
  rotate_left
  · have KK := Lib.hid (K5.out.trans k6); have HB := Lib.hid h6
    clear h6 k6
    unfold failP
    go_wp2
    refine ⟨rfl, gives_bad _ ?_ KK.out⟩
    show hallP ts = _
    unfold hallP
    rw [then_of H1.out, then_of H2.out, then_of H4.out, point_then H5.out, then_bad HB.out]
  have P6 := Lib.hid (P5.out.kept k6 (fun h => by have : w.heap.size = bp := h; omega))
  have R6 := Lib.hid (R5.out.kept k6 (fun h => by have : (w.heap.size + 1) = bp := h; omega))
  have V6 := Lib.hid (V5.out.kept k6 (fun h => by have : vb = bp := h; omega))
  have K6 := Lib.hid (K5.out.trans k6); have A6 := Lib.hid a6; have H6 := Lib.hid h6; have hs6 := k6.size
  clear h6 a6 k6 cP0 P5 R5 V5 K5 A5
  have hln : r6.length ≤ 5000 := by
      have l0 := shrink (det_word _) H1.out
      have l1 := shrink det_name H2.out
      have l2 := shrink (det_word _) H4.out
      have l3 := shrink det_point H5.out
      have l4 := shrink (det_word _) H6.out
      omega
  have hpl := P6.out.lt; have hvl := V6.out.lt; have hbl := A6.out.lt
  have cP := P6.out.cell (i := 0) rfl
  go_wp2_with fail
  refine (until_any bp L wClose levelP eats_level 37 hallC_ent #[.pointer (some ⟨vb, 0, none⟩), .pointer (some ⟨w.heap.size, 0, none⟩)]
    (fun ms W => ∃ v, Blk W vb 27 [.string ⟨nm.toArray⟩, .int .i64 (xy.1 : Nat), .int .i64 (xy.2 : Nat), v] ∧ Building levelK W (fun k => W6.heap.size ≤ k ∧ v.ownBlock ≠ some k) W6.heap.size 38 v ms ∧ Kp (fun k => k = bp ∨ k = vb ∨ W6.heap.size ≤ k) W6 W)
    (fun W => Kp (fun k => k = bp ∨ k = vb ∨ W6.heap.size ≤ k) W6 W) ?keep ?fin 5000 ?step fuel r6 (by unfold fuel; omega) [] (by simpa using hln) W6 ⟨_, V6.out, building_nil _ _ _ _ _, Kp.refl _ _⟩ A6.out).mono ?_
  case keep =>
    rintro ms W W' ⟨v, h1, h2, h3⟩ hk
    exact ⟨v, h1.kept hk (fun h => by have : vb = bp := h; omega), h2.kept (fun k hk' => hk.block k (h2.lt hk').2 (fun h => by have := (h2.lt hk').1; have : k = bp := h; omega)) (fun k hk' hlt => hk.block k hlt (fun h => by have := hk'.1; have : k = bp := h; omega)) (fun _ h _ => h), h3.call hk (fun k h => Or.inl (Or.inl h))⟩
  case fin =>
    rintro ms W W' ⟨v, h1, h2, h3⟩ hk
    exact h3.call hk (fun k h => Or.inl (Or.inl h))
  case step =>
    rintro ms W us ⟨v, h1, h2, h3⟩ hA hN
    refine (hallC_any bp L vb w.heap.size W6.heap.size us (.string ⟨nm.toArray⟩) (.int .i64 (xy.1 : Nat)) (.int .i64 (xy.2 : Nat)) v ms W hA h1 (P6.out.kept h3 (fun h => by omega)) h2 h3.size (by omega) (by omega) (by omega) (by omega) (by omega) (by omega) (by omega)).mono ?_
    rintro e W2 (⟨m, q, k1, rfl, ⟨v', k2, k3⟩, k4, k5⟩ | ⟨q, k1, rfl, k5⟩)
    · exact Or.inl ⟨m, q, k1, rfl, ⟨v', k2, k3, h3.trans k5⟩, k4⟩
    · exact Or.inr ⟨q, k1, rfl, h3.trans k5⟩
  rintro e W7 (⟨ls, r7, h7, rfl, ⟨v, v7, b7, k7⟩, a7⟩ | ⟨r7, h7, rfl, k7⟩)
  rotate_left
  · have KK := Lib.hid (K6.out.call k7 (fun k hk => by rcases hk with h | h | h; exact Or.inl h; exact Or.inr (by omega); exact Or.inr (by omega))); have HB := Lib.hid h7
    clear h7 k7
    unfold failP
    go_wp2
    refine ⟨rfl, gives_bad _ ?_ KK.out⟩
    show hallP ts = _
    unfold hallP
    rw [then_of H1.out, then_of H2.out, then_of H4.out, point_then H5.out, then_of H6.out, then_bad HB.out]
  obtain ⟨sa, sn, sc, rfl⟩ := b7.slice
  have P7 := Lib.hid (P6.out.kept k7 (fun h => by omega))
  have R7 := Lib.hid (R6.out.kept k7 (fun h => by omega))
  have V7 := Lib.hid v7
  have K7 := Lib.hid (K6.out.call k7 (fun k hk => by rcases hk with h | h | h; exact Or.inl h; exact Or.inr (by omega); exact Or.inr (by omega))); have A7 := Lib.hid a7; have H7 := Lib.hid h7; have HBU := Lib.hid b7; have hs7 := k7.size
  clear h7 a7 k7 v7 b7 cP hln P6 R6 V6 K6 A6
  have x0 := V7.out.cell (i := 0) rfl
  have x1 := V7.out.cell (i := 1) rfl
  have x2 := V7.out.cell (i := 2) rfl
  have x3 := V7.out.cell (i := 3) rfl
  have z0 := R7.out.cell (i := 0) rfl
  have z1 := R7.out.cell (i := 1) rfl
  have z2 := R7.out.cell (i := 2) rfl
  have z3 := R7.out.cell (i := 3) rfl
  have zf := R7.out.free
  go_wp2
  rw [setCells_four]
  refine bodyPost_ret (results_cell_mid rfl _ _ ((w.heap.size + 1)) [.string ⟨nm.toArray⟩, .int .i64 (xy.1 : Nat), .int .i64 (xy.2 : Nat), .slice sa sn sc] _ rfl (R7.out.whole (vs := [.string ⟨nm.toArray⟩, .int .i64 (xy.1 : Nat), .int .i64 (xy.2 : Nat), .slice sa sn sc]) rfl).range Tryz.underlying27 rfl (by kernel_rfl)) rfl ?_
  refine gives_ok (⟨nm, xy.1, xy.2, ls⟩) r7 ?_ ?_ (A7.out.result (by omega) _) (K7.out.result (by omega) _)
  · show hallP ts = _
    unfold hallP
    rw [then_of H1.out, then_of H2.out, then_of H4.out, point_then H5.out, then_of H6.out, then_of H7.out]
    rfl
  · exact ⟨_, rfl, _, rfl, HBU.out.result (by omega) (by omega) _⟩
end Go.Proofs.YtlfjdohjfmfcdaaGreatDoor
