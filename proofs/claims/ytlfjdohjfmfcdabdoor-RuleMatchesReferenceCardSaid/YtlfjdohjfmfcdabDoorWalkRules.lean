/-
  The walks of rules, and of the parsing of tokens, whose failure is recovered.
-/
import Derived.Test.YtlfjdohjfmfcdabDoorWalkItem
import Derived.Defers
import Derived.Recover
import Derived.Test.YtlfjdohjfmfcdabDoorWalkLex
namespace Go.Proofs.YtlfjdohjfmfcdabDoor
open Go.RowKit Go.Sort Go.Shelf Foyer.Rule Foyer.Round

theorem leftF_ent (args : Array Value) (w : World) : (callFunc 30 args).run Tryd.prog w = .ok (.enter 30 args) w := enters_of Tryd.func30 (by kernel_rfl) rfl args w
theorem itemF_ent (args : Array Value) (w : World) : (callFunc 32 args).run Tryd.prog w = .ok (.enter 32 args) w := enters_of Tryd.func32 (by kernel_rfl) rfl args w
theorem listItem_info : (Tryd.prog.info? 38).map (fun i => (i.zero, i.size, i.bytes)) = some (some (.agg #[.int .i64 0, .string ⟨#[]⟩, .slice none 0 0, .int .i64 0, .int .i64 0, .int .i64 0, .int .i64 0, .int .i64 0, .int .i64 0]), itemK.size, 96) := by kernel_rfl
set_option linter.unusedSimpArgs false in
set_option maxRecDepth 100000 in
set_option maxHeartbeats 4000000 in
theorem listItem_any (bp L : Nat) (ts : List TokP) (w : World) (h : At w bp L ts) :
    Calls Tryd.prog 31 #[.pointer (some ⟨bp, 0, none⟩), .int .i64 200, .func (.func 32) #[.pointer (some ⟨bp, 0, none⟩)] #[], .func (.func 30) #[.pointer (some ⟨bp, 0, none⟩)] #[]] w (Gives bp L (onlyB bp) w (listP sepL 199 itemP ts) (ListV itemK 38 w.heap.size)) := by
  have hent := itemF_ent
  have hent2 := leftF_ent
  have hlt := h.lt
  have HA := Lib.hid h
  clear h
  go_enter Tryd.func31, Tryd.ntmps31
  go_wp2_with fail
  refine (item_any bp L ts w HA.out).mono ?_
  rintro e w1 (⟨x, r1, h1, ⟨c, rfl, hc⟩, a1, k1⟩ | ⟨c1, r1, h1, rfl, k1⟩)
  rotate_left
  · have KK := Lib.hid k1; have HB := Lib.hid h1
    clear h1 k1
    unfold failP
    go_wp2
    exact ⟨rfl, gives_bad _ _ (show listP sepL 199 itemP ts = _ from then_bad HB.out) KK.out⟩
  obtain ⟨vw, hcc, hw⟩ := hc
  obtain ⟨sa, sn, sc, rfl⟩ := hw.slice
  obtain rfl : c = [.int .i64 (x.kind : Nat), .string ⟨x.name.toArray⟩, .slice sa sn sc, .int .i64 (x.head.n : Nat), .int .i64 (x.head.rn : Nat), .int .i64 (x.head.rd : Nat), .int .i64 (x.head.sn : Nat), .int .i64 (x.head.sd : Nat), .int .i64 (x.pos : Nat)] := hcc
  have hc : itemK.is w1 (fun k => w.heap.size ≤ k) [.int .i64 (x.kind : Nat), .string ⟨x.name.toArray⟩, .slice sa sn sc, .int .i64 (x.head.n : Nat), .int .i64 (x.head.rn : Nat), .int .i64 (x.head.rd : Nat), .int .i64 (x.head.sn : Nat), .int .i64 (x.head.sd : Nat), .int .i64 (x.pos : Nat)] x := ⟨_, rfl, hw⟩
  clear hw
  have hb1 := building_one (T := 38) hc k1.size
  have A1 := Lib.hid (a1.kept (E := fun _ => False) ((Kp.refl _ _).alloc (.cells #[.int .i64 (x.kind : Nat), .string ⟨x.name.toArray⟩, .slice sa sn sc, .int .i64 (x.head.n : Nat), .int .i64 (x.head.rn : Nat), .int .i64 (x.head.rd : Nat), .int .i64 (x.head.sn : Nat), .int .i64 (x.head.sd : Nat), .int .i64 (x.pos : Nat)] 38)) (fun _ h => h.elim)); have K1 := Lib.hid (k1.alloc (.cells #[.int .i64 (x.kind : Nat), .string ⟨x.name.toArray⟩, .slice sa sn sc, .int .i64 (x.head.n : Nat), .int .i64 (x.head.rn : Nat), .int .i64 (x.head.rd : Nat), .int .i64 (x.head.sn : Nat), .int .i64 (x.head.sd : Nat), .int .i64 (x.pos : Nat)] 38)); have H1 := Lib.hid h1; have HB1 := Lib.hid hb1
  clear a1 k1 h1 hb1 hc HA
  go_upto_region 2 with fail
  have HB1 : Hid (Building itemK (w1.alloc (.cells #[.int .i64 (x.kind : Nat), .string ⟨x.name.toArray⟩, .slice sa sn sc, .int .i64 (x.head.n : Nat), .int .i64 (x.head.rn : Nat), .int .i64 (x.head.rd : Nat), .int .i64 (x.head.sn : Nat), .int .i64 (x.head.sd : Nat), .int .i64 (x.pos : Nat)] 38)) (fun k => w.heap.size ≤ k ∧ (Value.slice (some ⟨w1.heap.size, 0, none⟩) 1 1).ownBlock ≠ some k) w.heap.size 38 (.slice (some ⟨w1.heap.size, 0, none⟩) 1 1) [x]) := HB1
  generalize w1.alloc (.cells #[.int .i64 (x.kind : Nat), .string ⟨x.name.toArray⟩, .slice sa sn sc, .int .i64 (x.head.n : Nat), .int .i64 (x.head.rn : Nat), .int .i64 (x.head.rd : Nat), .int .i64 (x.head.sn : Nat), .int .i64 (x.head.sd : Nat), .int .i64 (x.pos : Nat)] 38) = W1 at *
  generalize w1.heap.size = g1 at *
  go_loopw [9] (fun v wr => ∃ (k : Nat) (xs : List ItemP) (us : List TokP), Hid (xs.length + k = 200) ∧ Hid (listP sepL 199 itemP ts = andThen (rest sepL itemP k) (fun bs => give (xs ++ bs)) us) ∧ Hid (At wr bp L us) ∧ Hid (Kp (onlyB bp) w wr) ∧ Hid (Building itemK wr (fun k => w.heap.size ≤ k ∧ v.ownBlock ≠ some k) w.heap.size 38 v xs)) (fun v _ => 200 - lenOf v)
  case atStart => exact ⟨199, [x], r1, Lib.hid rfl, Lib.hid (show listP sepL 199 itemP ts = _ from then_of H1.out), A1, K1, HB1⟩
  case round =>
    clear HB1 A1 K1 H1
    obtain ⟨k, xs, us, HN, HM, HA, HK, HB⟩ := hrel
    obtain ⟨ga, gc, rfl⟩ := HB.out.len
    go_wp2_with fail
    refine (sepL_any bp L us wr HA.out).mono ?_
    rintro e w2 ⟨⟨r2, h2, rfl, a2⟩ | ⟨h2, rfl, a2⟩, k2⟩
    · have A2 := Lib.hid a2; have H2 := Lib.hid h2; have K2 := Lib.hid (HK.out.trans k2); have B2 := Lib.hid (HB.out.later k2 hlt)
      clear a2 h2 k2 HA HK HB
      by_cases hk0 : k = 0
      · have e1 : (((xs.length : Nat) : Int) == 200) = true := by have := HN.out; simp; omega
        have HK0 := Lib.hid hk0
        clear hk0
        go_wp2_with fail
        refine (fail_any bp L r2 3 _ A2.out).mono ?_
        rintro e w3 ⟨rfl, rfl⟩
        unfold failP
        go_wp2
        refine ⟨rfl, gives_bad 3 r2 ?_ K2.out⟩
        rw [HM.out, HK0.out, then_bad (rest_full H2.out)]
      · obtain ⟨k, rfl⟩ : ∃ k', k = k' + 1 := ⟨k - 1, by omega⟩
        have e1 : (((xs.length : Nat) : Int) == 200) = false := by have := HN.out; simp; omega
        clear hk0
        go_wp2_with fail
        refine (item_any bp L r2 w2 A2.out).mono ?_
        rintro e w3 (⟨x, r3, h3, ⟨c, rfl, hc⟩, a3, k3⟩ | ⟨c3, r3, h3, rfl, k3⟩)
        rotate_left
        · have KK := Lib.hid (K2.out.trans k3); have HBD := Lib.hid h3
          clear h3 k3
          unfold failP
          go_wp2
          refine ⟨rfl, gives_bad _ _ ?_ KK.out⟩
          rw [HM.out, then_bad ((rest_some H2.out _).trans (then_bad HBD.out))]
        obtain ⟨vw, hcc, hw⟩ := hc
        obtain ⟨sa, sn, sc, rfl⟩ := hw.slice
        obtain rfl : c = [.int .i64 (x.kind : Nat), .string ⟨x.name.toArray⟩, .slice sa sn sc, .int .i64 (x.head.n : Nat), .int .i64 (x.head.rn : Nat), .int .i64 (x.head.rd : Nat), .int .i64 (x.head.sn : Nat), .int .i64 (x.head.sd : Nat), .int .i64 (x.pos : Nat)] := hcc
        have hc : itemK.is w3 (fun k => w2.heap.size ≤ k) [.int .i64 (x.kind : Nat), .string ⟨x.name.toArray⟩, .slice sa sn sc, .int .i64 (x.head.n : Nat), .int .i64 (x.head.rn : Nat), .int .i64 (x.head.rd : Nat), .int .i64 (x.head.sn : Nat), .int .i64 (x.head.sd : Nat), .int .i64 (x.pos : Nat)] x := ⟨_, rfl, hw⟩
        clear hw
        obtain ⟨i0, hi, hz0, hz1, hz2⟩ := info_parts' listItem_info
        obtain ⟨css, hcon, hall⟩ := B2.out.later k3 hlt
        have hown : ∀ k, (Value.slice ga xs.length gc).ownBlock = some k → k < w2.heap.size := fun k hk => (B2.out.lt hk).2
        have hbs : w.heap.size ≤ w2.heap.size := K2.out.size
        have K3 := Lib.hid (K2.out.trans k3); have A3 := Lib.hid a3; have H3 := Lib.hid h3; have hs3 := k3.size
        have HI := Lib.hid hi; have HZ0 := Lib.hid hz0; have HZ1 := Lib.hid hz1; have HZ2 := Lib.hid hz2
        have HCON := Lib.hid hcon; have HALL := Lib.hid hall; have HOW := Lib.hid hown; have HC := Lib.hid hc
        have HXL : Hid (css.length + 1 ≤ 1000000) := Lib.hid (by rw [All2.length HALL.out]; have := HN.out; omega)
        clear k3 a3 h3 hi hz0 hz1 hz2 hcon hall hown hc B2 K2 A2
        go_wp2_with (refine wpList_append_con (t := 23) (T := 38) (m := itemK.size) (B := w.heap.size) Tryd.underlying23 HI.out HZ0.out HZ1.out HZ2.out rfl (by decide) (by decide) rfl (.tmp 21) (.tmp 24) rfl _ css [.int .i64 (x.kind : Nat), .string ⟨x.name.toArray⟩, .slice sa sn sc, .int .i64 (x.head.n : Nat), .int .i64 (x.head.rn : Nat), .int .i64 (x.head.rd : Nat), .int .i64 (x.head.sn : Nat), .int .i64 (x.head.sd : Nat), .int .i64 (x.pos : Nat)] rfl (HCON.out.of_block (fun k hk => Below.heap_alloc _ _ _ (by have := HOW.out k hk; omega))) w3.heap.size rfl (Blk.new w3 38 [.int .i64 (x.kind : Nat), .string ⟨x.name.toArray⟩, .slice sa sn sc, .int .i64 (x.head.n : Nat), .int .i64 (x.head.rn : Nat), .int .i64 (x.head.rd : Nat), .int .i64 (x.head.sn : Nat), .int .i64 (x.head.sd : Nat), .int .i64 (x.pos : Nat)]) (itemK.len HC.out) (itemK.one HC.out) HXL.out (by rw [World.size_alloc]; omega) ?_; intro v' W4 hcon' hg hat hone; have BN := Lib.hid (building_snoc HALL.out HC.out hbs HOW.out hcon' hg hat); have KN := Lib.hid ((K3.out.alloc (.cells ([.int .i64 (x.kind : Nat), .string ⟨x.name.toArray⟩, .slice sa sn sc, .int .i64 (x.head.n : Nat), .int .i64 (x.head.rn : Nat), .int .i64 (x.head.rd : Nat), .int .i64 (x.head.sn : Nat), .int .i64 (x.head.sd : Nat), .int .i64 (x.pos : Nat)] : List Value).toArray 38)).grown hg (fun k hk => Or.inr (own_lt HCON.out.own hk).1)); have AN := Lib.hid (A3.out.kept (E := fun k => w.heap.size ≤ k) (((Kp.refl _ w3).alloc (.cells ([.int .i64 (x.kind : Nat), .string ⟨x.name.toArray⟩, .slice sa sn sc, .int .i64 (x.head.n : Nat), .int .i64 (x.head.rn : Nat), .int .i64 (x.head.rd : Nat), .int .i64 (x.head.sn : Nat), .int .i64 (x.head.sd : Nat), .int .i64 (x.pos : Nat)] : List Value).toArray 38)).grown hg (fun k hk => Or.inl (own_lt HCON.out.own hk).1)) (fun k hk => by have : w.heap.size ≤ k := hk; omega)); clear hcon' hg hat)
        obtain ⟨ga', gc', hv'⟩ := BN.out.len
        refine ⟨⟨k, xs ++ [x], r3, Lib.hid (by have := HN.out; simp only [List.length_append, List.length_cons, List.length_nil]; omega), Lib.hid ?_, AN, KN, BN⟩, ?_⟩
        · rw [HM.out]
          unfold andThen give
          rw [rest_some H2.out, then_of H3.out]
          unfold andThen give
          cases rest sepL itemP k r3 with
          | bad c z => rfl
          | ok zs z => simp
        · rw [hv']
          have := HN.out
          simp only [lenOf, List.length_append, List.length_cons, List.length_nil]
          omega
    · have A2 := Lib.hid a2; have H2 := Lib.hid h2; have K2 := Lib.hid (HK.out.trans k2); have B2 := Lib.hid (HB.out.later k2 hlt)
      clear a2 h2 k2 HA HK HB
      go_wp2
      refine bodyPost_ret (results_tmp rfl _ _ _) rfl (gives_ok xs us ?_ ⟨.slice ga xs.length gc, rfl, B2.out.done (fun k hk _ => hk.1) (fun k hk => hk)⟩ A2.out K2.out)
      rw [HM.out, then_of (rest_none H2.out k), List.append_nil]
      rfl

/-- What rules are as a value. -/
def ItemsV (n : Nat) (xs : List ItemP) (e : Ending) (w' : World) : Prop := ∃ v, e = .returned (.agg #[v]) ∧ IsList itemK w' (fun k => n ≤ k) 38 v xs
theorem nil_is {α : Type} (K : Kind α) (W : World) (F : Nat → Prop) (T : TypeId) : IsList K W F T (.slice none 0 0) [] := ⟨[], con_nil _ _ _ _, fun q hq => (by cases hq), .nil⟩
theorem setCells_one (w : World) (b : Nat) (v0 : Value) : w.setCell ⟨b, 0, none⟩ v0 = w.setCells b 0 [v0] := rfl
set_option maxRecDepth 100000 in
set_option maxHeartbeats 2000000 in
theorem rules_any (bp L : Nat) (ts : List TokP) (w : World) (h : At w bp L ts) : Calls Tryd.prog 17 #[.pointer (some ⟨bp, 0, none⟩)] w (Gives bp L (onlyB bp) w (rulesP ts) (ItemsV w.heap.size)) := by
  have hmf := makes_func
  have hlt := h.lt
  have R0 := (Blk.new w 25 [.slice none 0 0]).alloc (.cells #[.slice none 0 0] 25)
  have V0 := Blk.new (w.alloc (.cells #[.slice none 0 0] 25)) 25 [.slice none 0 0]
  rw [show (w.alloc (.cells #[.slice none 0 0] 25)).heap.size = w.heap.size + 1 by simp] at V0
  have K0 : Kp (onlyB bp) w ((w.alloc (.cells #[.slice none 0 0] 25)).alloc (.cells #[.slice none 0 0] 25)) := ((Kp.refl _ _).alloc _).alloc _
  have A0 := h.kept (E := fun _ => False) (((Kp.refl _ w).alloc (.cells #[.slice none 0 0] 25)).alloc (.cells #[.slice none 0 0] 25)) (fun _ h => h.elim)
  have hs0 : w.heap.size + 2 ≤ ((w.alloc (.cells #[.slice none 0 0] 25)).alloc (.cells #[.slice none 0 0] 25)).heap.size := by simp
  clear h
  go_enter Tryd.func17, Tryd.ntmps17
  go_upto_region 2 with fail
  generalize (w.alloc (.cells #[.slice none 0 0] 25)).alloc (.cells #[.slice none 0 0] 25) = W0 at *
  have R0 := Lib.hid R0; have V0 := Lib.hid V0; have K0 := Lib.hid K0; have A0 := Lib.hid A0
  go_wp2_with fail
  refine (left_any bp L ts _ A0.out _ rfl).mono ?_
  rintro e w1 ⟨rfl, rfl⟩
  cases ts with
  | nil =>
    have x0 := V0.out.cell (i := 0) rfl
    have z0 := R0.out.cell (i := 0) rfl
    have zf := R0.out.free
    go_wp2
    rw [setCells_one]
    refine bodyPost_ret (results_cell_mid rfl _ _ w.heap.size [.slice none 0 0] _ rfl (R0.out.whole (vs := [.slice none 0 0]) rfl).range Tryd.underlying25 rfl (by kernel_rfl)) rfl ?_
    exact gives_ok [] [] rfl ⟨_, rfl, nil_is _ _ _ _⟩ (A0.out.result (by omega) _) (K0.out.result (by omega) _)
  | cons t r =>
    have e1 : decide (t :: r ≠ []) = true := by simp
    rw [e1]
    clear e1
    go_wp2_with fail
    refine (listItem_any bp L (t :: r) _ A0.out).mono ?_
    rintro e w2 (⟨xs, r2, h2, ⟨v, rfl, hv⟩, a2, k2⟩ | ⟨c2, r2, h2, rfl, k2⟩)
    rotate_left
    · have KK := Lib.hid (K0.out.trans k2); have HB := Lib.hid h2
      clear h2 k2
      unfold failP
      go_wp2
      exact ⟨rfl, gives_bad _ _ (((rest_some (sep := sepL) rfl 199).trans HB.out) : rulesP (t :: r) = _) KK.out⟩
    obtain ⟨sa, sn, sc, rfl⟩ := hv.slice
    have R2 := Lib.hid (R0.out.kept k2 (fun h => by have : w.heap.size = bp := h; omega))
    have V2 := Lib.hid (V0.out.kept k2 (fun h => by have : w.heap.size + 1 = bp := h; omega))
    have K2 := Lib.hid (K0.out.trans k2); have A2 := Lib.hid a2; have H2 := Lib.hid h2; have HV := Lib.hid hv; have hs2 := k2.size
    clear h2 a2 k2 hv R0 V0 K0 A0
    have x0 := V2.out.cell (i := 0) rfl
    have xf := V2.out.free 0
    go_upto_region 4 with fail
    have v3 : Blk (w2.setCell ⟨w.heap.size + 1, 0, none⟩ (.slice sa sn sc)) (w.heap.size + 1) 25 [.slice sa sn sc] := V2.out.set 0 (.slice sa sn sc)
    have r3 := R2.out.other (p := ⟨w.heap.size + 1, 0, none⟩) (by show ¬ w.heap.size + 1 = w.heap.size; omega) (.slice sa sn sc)
    have ks := (Kp.refl (onlyB (w.heap.size + 1)) w2).setOld (w.heap.size + 1) 0 rfl (.slice sa sn sc)
    have k3 := K2.out.setNew (w.heap.size + 1) 0 (by omega) (.slice sa sn sc)
    have a3 := A2.out.kept (E := onlyB (w.heap.size + 1)) ks (fun k hk => by have : k = w.heap.size + 1 := hk; omega)
    have l3 := HV.out.kept (W' := w2.setCell ⟨w.heap.size + 1, 0, none⟩ (.slice sa sn sc)) (fun q hq hlt => ks.block q hlt (fun h => by have h1 : q = w.heap.size + 1 := h; have h2 : w1.heap.size ≤ q := hq; omega))
    clear x0 xf ks R2 V2 K2 A2 HV
    generalize w2.setCell ⟨w.heap.size + 1, 0, none⟩ (.slice sa sn sc) = W3 at *
    have y0 := v3.cell (i := 0) rfl
    have z0 := r3.cell (i := 0) rfl
    have zf := r3.free
    have R3 := Lib.hid r3; have K3 := Lib.hid k3; have A3 := Lib.hid a3; have L3 := Lib.hid l3
    clear v3 r3 k3 a3 l3
    go_wp2
    rw [setCells_one]
    have kr := Kp.setCells (E := fun q => q = w.heap.size) (p := w.heap.size) (Or.inl rfl) [.slice sa sn sc] 0 W3 (Kp.refl _ _)
    refine bodyPost_ret (results_cell_mid rfl _ _ w.heap.size [.slice sa sn sc] _ rfl (R3.out.whole (vs := [.slice sa sn sc]) rfl).range Tryd.underlying25 rfl (by kernel_rfl)) rfl ?_
    refine gives_ok xs r2 (((rest_some (sep := sepL) rfl 199).trans H2.out) : rulesP (t :: r) = _) ⟨_, rfl, ?_⟩ (A3.out.result (by omega) _) (K3.out.result (by omega) _)
    exact (L3.out.kept (fun q hq hlt => kr.block q hlt (fun h => by have h1 : q = w.heap.size := h; have h2 : w1.heap.size ≤ q := hq; omega))).mono (fun q hq _ => by have h2 : w1.heap.size ≤ q := hq; show w.heap.size ≤ q; omega)
end Go.Proofs.YtlfjdohjfmfcdabDoor

/-! ## The parsing of tokens: rules, or the failure that was recovered. -/
namespace Go.Proofs.YtlfjdohjfmfcdabDoor
open Go.RowKit Go.Sort Go.Shelf Foyer.Rule Foyer.Round
theorem assert_nil (w : World) : (Instr.typeAssert .nilIface 20 56 true).run Tryd.prog w = .ok (.tuple #[.agg #[.int .i64 0, .int .i64 0], .bool false]) w := by kernel_rfl
theorem assert_failure (v : Value) (w : World) : (Instr.typeAssert (.iface 56 v) 20 56 true).run Tryd.prog w = .ok (.tuple #[v, .bool true]) w := by kernel_rfl
set_option maxRecDepth 100000 in
theorem parseC_idle (hb eb ab : Nat) (w : World) :
    CallsD Tryd.prog 16 #[.pointer (some ⟨hb, 0, none⟩), .pointer (some ⟨eb, 0, none⟩), .pointer (some ⟨ab, 0, none⟩)] .returning w fun e u' w' =>
      e = .returned (.tuple #[]) ∧ u' = .returning ∧ w' = w.alloc (.cells #[.int .i64 0, .int .i64 0] 56) := by
  have h1 := assert_nil
  refine callsD_of_wpS Tryd.func16 rfl fun c₀ cs hu => ?_
  apply wpS_seq
  apply wpS_region
  simp [wpOpsS, go_sem, recoverD, hu, Tryd.ntmps16, Exit.thenS, h1]
  apply wpS_seq
  apply wpS_region
  simp [wpOpsS, go_sem, Exit.thenS]
  refine wpS_cond (t := false) (by simp [Act.eval]) ?_
  simp only [Bool.false_eq_true, if_false]
  refine wpS_of_wp (wp_skip ?_)
  cases c₀
  simp_all [bodyPostS, results, Tryd.results16]
set_option linter.unusedSimpArgs false in
set_option maxRecDepth 100000 in
set_option maxHeartbeats 2000000 in
theorem parseC_failed (hb eb ab E A : Nat) (w : World) (c0 d0 d1 : Value) (hh : Blk w hb 25 [c0]) (he : Blk w eb 26 [d0]) (ha : Blk w ab 3 [d1]) (h12 : hb < eb) (h23 : eb < ab) :
    CallsD Tryd.prog 16 #[.pointer (some ⟨hb, 0, none⟩), .pointer (some ⟨eb, 0, none⟩), .pointer (some ⟨ab, 0, none⟩)] (.panicking [{ v := .iface 56 (.agg #[.int .i64 (E : Nat), .int .i64 (A : Nat)]), recovered := false }]) w fun e u' w' =>
      e = .returned (.tuple #[]) ∧ u' = .panicking [{ v := .iface 56 (.agg #[.int .i64 (E : Nat), .int .i64 (A : Nat)]), recovered := true }] ∧
        Blk w' hb 25 [.slice none 0 0] ∧ Blk w' eb 26 [.int .i64 (E : Nat)] ∧ Blk w' ab 3 [.int .i64 (A : Nat)] ∧ Kp (fun k => k = hb ∨ k = eb ∨ k = ab) w w' := by
  have h1 := assert_failure
  refine callsD_of_wpS Tryd.func16 rfl fun c₀ cs hu => ?_
  apply wpS_seq
  apply wpS_region
  simp [wpOpsS, go_sem, recoverD, hu, Tryd.ntmps16, Exit.thenS, h1]
  have hh2 := hh.alloc (.cells #[.int .i64 (E : Nat), .int .i64 (A : Nat)] 56)
  have he2 := he.alloc (.cells #[.int .i64 (E : Nat), .int .i64 (A : Nat)] 56)
  have ha2 := ha.alloc (.cells #[.int .i64 (E : Nat), .int .i64 (A : Nat)] 56)
  have hx2 := Blk.new w 56 [.int .i64 (E : Nat), .int .i64 (A : Nat)]
  have hk2 := (Kp.refl (fun k => k = hb ∨ k = eb ∨ k = ab) w).alloc (.cells #[.int .i64 (E : Nat), .int .i64 (A : Nat)] 56)
  apply wpS_seq
  apply wpS_region
  simp [wpOpsS, go_sem, Exit.thenS]
  refine wpS_cond (t := true) (by simp [Act.eval]) ?_
  simp only [if_true]
  have hw := ha.lt
  refine wpS_of_wp ?_
  obtain ⟨W, hW⟩ : ∃ W, w.alloc (.cells #[.int .i64 (E : Nat), .int .i64 (A : Nat)] 56) = W := ⟨_, rfl⟩
  rw [hW] at hh2 he2 ha2 hx2 hk2 ⊢
  refine wp_region_any (by kernel_rfl) ?_
  have hl := hx2.lt
  have hS0 : Blk W.drew w.heap.size 56 [.int .i64 (E : Nat), .int .i64 (A : Nat)] := hx2
  have hh0 : Blk W.drew hb 25 [c0] := hh2
  have he0 : Blk W.drew eb 26 [d0] := he2
  have ha0 : Blk W.drew ab 3 [d1] := ha2
  have hk0 : Kp (fun k => k = hb ∨ k = eb ∨ k = ab) w W.drew := hk2.drew
  refine any_of_held (S := fun V => Blk V w.heap.size 56 [.int .i64 (E : Nat), .int .i64 (A : Nat)]) (N := []) _ _ _ _ ?_
  change held _ _ _ _ _ _ _ _ _ W.drew
  obtain ⟨wa, hwa⟩ : ∃ wa, W.drew = wa := ⟨_, rfl⟩
  rw [hwa] at hS0 hh0 he0 ha0 hk0 ⊢
  have z0 := hh0.cell (i := 0) rfl
  have zf := hh0.free
  have HK := Lib.hid hk0; have HH := Lib.hid hh0; have HE := Lib.hid he0; have HA := Lib.hid ha0
  clear hwa hh2 he2 ha2 hx2 hk2 hW hh he ha hh0 he0 ha0 hk0
  refine held_take [] (i := 0) (v := .agg #[.slice none 0 0]) rfl (by kernel_rfl) (fun _ _ _ h => h) (Or.inl ⟨by rfl, fun w' hS => by go_simp⟩) hS0 ?_
  try simp only [Act.put, List.setIfInBounds_toArray, List.set_cons_zero, List.set_cons_succ]
  refine held_take [] (i := 1) (v := .pointer (some ⟨w.heap.size, 0, none⟩)) rfl (by kernel_rfl) (fun _ _ _ h => h) (Or.inl ⟨by rfl, fun w' hS => by go_simp⟩) hS0 ?_
  try simp only [Act.put, List.setIfInBounds_toArray, List.set_cons_zero, List.set_cons_succ]
  refine held_take [] (i := 2) (v := .int .i64 (E : Nat)) rfl (by kernel_rfl) (fun _ _ _ h => h) (Or.inl ⟨by rfl, fun w' hS => by have hc := hS.cell (i := 0) rfl; go_simp⟩) hS0 ?_
  try simp only [Act.put, List.setIfInBounds_toArray, List.set_cons_zero, List.set_cons_succ]
  refine held_take [] (i := 3) (v := .pointer (some ⟨w.heap.size, 1, none⟩)) rfl (by kernel_rfl) (fun _ _ _ h => h) (Or.inl ⟨by rfl, fun w' hS => by go_simp⟩) hS0 ?_
  try simp only [Act.put, List.setIfInBounds_toArray, List.set_cons_zero, List.set_cons_succ]
  refine held_take [] (i := 4) (v := .int .i64 (A : Nat)) rfl (by kernel_rfl) (fun _ _ _ h => h) (Or.inl ⟨by rfl, fun w' hS => by have hc := hS.cell (i := 1) rfl; go_simp⟩) hS0 ?_
  try simp only [Act.put, List.setIfInBounds_toArray, List.set_cons_zero, List.set_cons_succ]
  refine held_one (i := 5) rfl (by kernel_rfl) (fun K hK => ?_)
  go_simp
  rw [setCells_one]
  have K1 := Kp.setCells (E := onlyB hb) (p := hb) (Or.inl rfl) [.slice none 0 0] 0 wa (Kp.refl _ _)
  have S1 := hS0.kept K1 (fun h => by have : w.heap.size = hb := h; omega)
  have E1 := HE.out.kept K1 (fun h => by have : eb = hb := h; omega)
  have A1 := HA.out.kept K1 (fun h => by have : ab = hb := h; omega)
  have H1 := HH.out.whole (vs := [.slice none 0 0]) rfl
  have KK1 := HK.out.call K1 (fun k hk => Or.inl (Or.inl hk))
  refine hK.out _ _ (fun _ => S1) ?_
  clear hK K z0 zf K1
  generalize wa.setCells hb 0 [.slice none 0 0] = wb at *
  try simp only [Act.put, List.setIfInBounds_toArray, List.set_cons_zero, List.set_cons_succ]
  have e0 := E1.cell (i := 0) rfl
  have ef := E1.free 0
  refine held_one (i := 6) rfl (by kernel_rfl) (fun K hK => ?_)
  go_simp
  have S2 := S1.other (p := ⟨eb, 0, none⟩) (by show ¬ eb = w.heap.size; omega) (.int .i64 (E : Nat))
  have E2 := E1.set 0 (.int .i64 (E : Nat))
  have A2 := A1.other (p := ⟨eb, 0, none⟩) (by show ¬ eb = ab; omega) (.int .i64 (E : Nat))
  have H2 := H1.other (p := ⟨eb, 0, none⟩) (by show ¬ eb = hb; omega) (.int .i64 (E : Nat))
  have KK2 := KK1.setOld eb 0 (Or.inr (Or.inl rfl)) (.int .i64 (E : Nat))
  refine hK.out _ _ (fun _ => S2) ?_
  clear hK K e0 ef
  generalize wb.setCell ⟨eb, 0, none⟩ (.int .i64 (E : Nat)) = wc at *
  try simp only [Act.put, List.setIfInBounds_toArray, List.set_cons_zero, List.set_cons_succ]
  have a0 := A2.cell (i := 0) rfl
  have af := A2.free 0
  refine held_one (i := 7) rfl (by kernel_rfl) (fun K hK => ?_)
  go_simp
  have S3 := S2.other (p := ⟨ab, 0, none⟩) (by show ¬ ab = w.heap.size; omega) (.int .i64 (A : Nat))
  have E3 := E2.other (p := ⟨ab, 0, none⟩) (by show ¬ ab = eb; omega) (.int .i64 (A : Nat))
  have A3 := A2.set 0 (.int .i64 (A : Nat))
  have H3 := H2.other (p := ⟨ab, 0, none⟩) (by show ¬ ab = hb; omega) (.int .i64 (A : Nat))
  have KK3 := KK2.setOld ab 0 (Or.inr (Or.inr rfl)) (.int .i64 (A : Nat))
  refine hK.out _ _ (fun _ => S3) ?_
  clear hK K a0 af
  generalize wc.setCell ⟨ab, 0, none⟩ (.int .i64 (A : Nat)) = wd at *
  try simp only [Act.put, List.setIfInBounds_toArray, List.set_cons_zero, List.set_cons_succ]
  refine held_done (by kernel_rfl) ?_ _
  exact ⟨rfl, _, rfl, _, by simp [results, Tryd.results16], rfl, rfl, H3, E3, A3, KK3⟩
/-- What a parsing returns. -/
def ToksV (n : Nat) (x : List ItemP × Nat × Nat) (e : Ending) (w' : World) : Prop := ∃ v, e = .returned (.tuple #[.agg #[v], .int .i64 (x.2.1 : Nat), .int .i64 (x.2.2 : Nat)]) ∧ IsList itemK w' (fun k => n ≤ k) 38 v x.1
theorem parse_fail {ts r : List TokP} {c : Nat} (h : rulesP ts = .bad c r) (n : Nat) : parseToks ts n = ([], failAt c n r) := by unfold parseToks; rw [h]
theorem parse_ok {ts r : List TokP} {xs : List ItemP} (h : rulesP ts = .ok xs r) (n : Nat) : parseToks ts n = (xs, 0, 0) := by unfold parseToks; rw [h]
set_option maxRecDepth 100000 in
set_option maxHeartbeats 4000000 in
theorem toks_any (ts : List TokP) (p : Option Addr) (n cap L : Nat) (w : World) (hr : RdT w p ts) (hn : ts.length = n) (hc : n ≤ cap) (hm : cap ≤ maxLen) (hp : p = none → cap = 0) (hsh : ∀ t ∈ ts, t.text.length ≤ 1000000) :
    Calls Tryd.prog 10 #[.slice p n cap, .int .i64 (L : Nat)] w fun e w' => ToksV w.heap.size (parseToks ts L) e w' ∧ Kp (fun _ => False) w w' := by
  have hmf := makes_func
  subst hn
  have x1 := (((Blk.new w 25 [.slice none 0 0]).alloc (.cells #[.int .i64 0] 26)).alloc (.cells #[.int .i64 0] 3)).alloc (.cells #[.slice p ts.length cap, .int .i64 (L : Nat)] 60)
  have x2 := ((Blk.new (w.alloc (.cells #[.slice none 0 0] 25)) 26 [.int .i64 0]).alloc (.cells #[.int .i64 0] 3)).alloc (.cells #[.slice p ts.length cap, .int .i64 (L : Nat)] 60)
  have x3 := (Blk.new ((w.alloc (.cells #[.slice none 0 0] 25)).alloc (.cells #[.int .i64 0] 26)) 3 [.int .i64 0]).alloc (.cells #[.slice p ts.length cap, .int .i64 (L : Nat)] 60)
  have x4 := Blk.new (((w.alloc (.cells #[.slice none 0 0] 25)).alloc (.cells #[.int .i64 0] 26)).alloc (.cells #[.int .i64 0] 3)) 60 [.slice p ts.length cap, .int .i64 (L : Nat)]
  have k0 := ((((Kp.refl (fun _ => False) w).alloc (.cells #[.slice none 0 0] 25)).alloc (.cells #[.int .i64 0] 26)).alloc (.cells #[.int .i64 0] 3)).alloc (.cells #[.slice p ts.length cap, .int .i64 (L : Nat)] 60)
  have hs0 : w.heap.size + 4 ≤ ((((w.alloc (.cells #[.slice none 0 0] 25)).alloc (.cells #[.int .i64 0] 26)).alloc (.cells #[.int .i64 0] 3)).alloc (.cells #[.slice p ts.length cap, .int .i64 (L : Nat)] 60)).heap.size := by simp
  simp only [World.size_alloc] at x2 x3 x4
  go_enter_defers Tryd.func10, Tryd.ntmps10
  go_upto_region 3 with fail
  generalize ((((w.alloc (.cells #[.slice none 0 0] 25)).alloc (.cells #[.int .i64 0] 26)).alloc (.cells #[.int .i64 0] 3)).alloc (.cells #[.slice p ts.length cap, .int .i64 (L : Nat)] 60)) = W0 at *
  have a0 : At W0 (w.heap.size + 1 + 1 + 1) L ts := by
    refine ⟨p, cap, x4, hr.imp id ?_, hc, hm, hp, hsh⟩
    rintro ⟨b, off, rfl, hb, ht⟩
    exact ⟨b, off, rfl, by omega, fun j t hj => (ht j t hj).kept k0 (fun h => h)⟩
  have X1 := Lib.hid x1; have X2 := Lib.hid x2; have X3 := Lib.hid x3; have K0 := Lib.hid k0; have A0 := Lib.hid a0
  clear x1 x2 x3 x4 k0 a0 hr hp hm hc hsh
  have i1 : w.heap.size < w.heap.size + 1 := by omega
  have i2 : w.heap.size + 1 < w.heap.size + 1 + 1 := by omega
  have i3 : w.heap.size + 1 + 1 < w.heap.size + 1 + 1 + 1 := by omega
  have i4 : w.heap.size + 1 + 1 + 1 < W0.heap.size := by omega
  clear hs0
  generalize w.heap.size + 1 + 1 + 1 = bp at *
  generalize w.heap.size + 1 + 1 = ab at *
  generalize w.heap.size + 1 = eb at *
  go_wp2_with fail
  refine (rules_any bp L ts W0 A0.out).mono ?_
  rintro e W1 (⟨xs, r, h1, ⟨v, rfl, hv⟩, a1, k1⟩ | ⟨c, r, h1, rfl, k1⟩)
  rotate_left
  · have Y1 := Lib.hid (X1.out.kept k1 (fun h => by have : w.heap.size = bp := h; omega)); have Y2 := Lib.hid (X2.out.kept k1 (fun h => by have : eb = bp := h; omega)); have Y3 := Lib.hid (X3.out.kept k1 (fun h => by have : ab = bp := h; omega))
    have KK := Lib.hid (K0.out.call k1 (fun k hk => Or.inr (by have : k = bp := hk; omega))); have H1 := Lib.hid h1
    clear h1 k1 X1 X2 X3 K0 A0
    unfold failP
    go_wp2
    refine leaves_cons (f := 16) (args := #[.pointer (some ⟨w.heap.size, 0, none⟩), .pointer (some ⟨eb, 0, none⟩), .pointer (some ⟨ab, 0, none⟩)]) (by simp) (by simp [go_sem]) ?_
    refine (parseC_failed w.heap.size eb ab _ _ _ _ _ _ Y1.out Y2.out Y3.out (by omega) (by omega)).mono ?_
    rintro e u' w'' ⟨rfl, rfl, hH, hE, hA, hk⟩
    have c0 := hH.cell (i := 0) rfl
    have c4 := hE.cell (i := 0) rfl
    have c5 := hA.cell (i := 0) rfl
    have kk : Kp (fun _ => False) w w'' := KK.out.call hk (fun k hk => Or.inr (by rcases hk with h | h | h <;> omega))
    clear hH hE hA hk
    simp [Leaves, settle, results, Tryd.results10, c0, c4, c5, go_sem]
    exact ⟨⟨_, by rw [parse_fail H1.out], by rw [parse_fail H1.out]; exact nil_is _ _ _ _⟩, kk⟩
  obtain ⟨sa, sn, sc, rfl⟩ := hv.slice
  have Z1 := Lib.hid (X1.out.kept k1 (fun h => by have : w.heap.size = bp := h; omega)); have Z2 := Lib.hid (X2.out.kept k1 (fun h => by have : eb = bp := h; omega)); have Z3 := Lib.hid (X3.out.kept k1 (fun h => by have : ab = bp := h; omega))
  have KK := Lib.hid (K0.out.call k1 (fun k hk => Or.inr (by have : k = bp := hk; omega))); have H1 := Lib.hid h1; have HV := Lib.hid hv; have hz := k1.size
  clear h1 k1 a1 hv X1 X2 X3 K0 A0
  have c0 := Z1.out.cell (i := 0) rfl
  have cf := Z1.out.free
  have c4 := Z2.out.cell (i := 0) rfl
  have cf4 := Z2.out.free
  have c5 := Z3.out.cell (i := 0) rfl
  have cf5 := Z3.out.free
  have hne1 : ¬ w.heap.size = eb := by omega
  have hne2 : ¬ w.heap.size = ab := by omega
  have hne3 : ¬ eb = ab := by omega
  go_wp2
  refine leaves_cons (f := 16) (args := #[.pointer (some ⟨w.heap.size, 0, none⟩), .pointer (some ⟨eb, 0, none⟩), .pointer (some ⟨ab, 0, none⟩)]) (by simp) (by simp [go_sem]) ?_
  refine (parseC_idle w.heap.size eb ab _).mono ?_
  rintro e u' w'' ⟨rfl, rfl, rfl⟩
  have f1 : Blk ((((W1.setCell ⟨w.heap.size, 0, none⟩ (.slice sa sn sc)).setCell ⟨eb, 0, none⟩ (.int .i64 0)).setCell ⟨ab, 0, none⟩ (.int .i64 0)).alloc (.cells #[.int .i64 0, .int .i64 0] 56)) w.heap.size 25 [.slice sa sn sc] := (((Z1.out.set 0 (.slice sa sn sc)).other (p := ⟨eb, 0, none⟩) (by show ¬ eb = w.heap.size; omega) (.int .i64 0)).other (p := ⟨ab, 0, none⟩) (by show ¬ ab = w.heap.size; omega) (.int .i64 0)).alloc (.cells #[.int .i64 0, .int .i64 0] 56)
  have f2 : Blk ((((W1.setCell ⟨w.heap.size, 0, none⟩ (.slice sa sn sc)).setCell ⟨eb, 0, none⟩ (.int .i64 0)).setCell ⟨ab, 0, none⟩ (.int .i64 0)).alloc (.cells #[.int .i64 0, .int .i64 0] 56)) eb 26 [.int .i64 0] := (((Z2.out.other (p := ⟨w.heap.size, 0, none⟩) (by show ¬ w.heap.size = eb; omega) (.slice sa sn sc)).set 0 (.int .i64 0)).other (p := ⟨ab, 0, none⟩) (by show ¬ ab = eb; omega) (.int .i64 0)).alloc (.cells #[.int .i64 0, .int .i64 0] 56)
  have f3 : Blk ((((W1.setCell ⟨w.heap.size, 0, none⟩ (.slice sa sn sc)).setCell ⟨eb, 0, none⟩ (.int .i64 0)).setCell ⟨ab, 0, none⟩ (.int .i64 0)).alloc (.cells #[.int .i64 0, .int .i64 0] 56)) ab 3 [.int .i64 0] := (((Z3.out.other (p := ⟨w.heap.size, 0, none⟩) (by show ¬ w.heap.size = ab; omega) (.slice sa sn sc)).other (p := ⟨eb, 0, none⟩) (by show ¬ eb = ab; omega) (.int .i64 0)).set 0 (.int .i64 0)).alloc (.cells #[.int .i64 0, .int .i64 0] 56)
  have kf := (((KK.out.setNew w.heap.size 0 (by omega) (.slice sa sn sc)).setNew eb 0 (by omega) (.int .i64 0)).setNew ab 0 (by omega) (.int .i64 0)).alloc (.cells #[.int .i64 0, .int .i64 0] 56)
  have k2 := ((((Kp.refl (fun k => k = w.heap.size ∨ k = eb ∨ k = ab) W1).setOld w.heap.size 0 (Or.inl rfl) (.slice sa sn sc)).setOld eb 0 (Or.inr (Or.inl rfl)) (.int .i64 0)).setOld ab 0 (Or.inr (Or.inr rfl)) (.int .i64 0)).alloc (.cells #[.int .i64 0, .int .i64 0] 56)
  have hl3 : IsList itemK ((((W1.setCell ⟨w.heap.size, 0, none⟩ (.slice sa sn sc)).setCell ⟨eb, 0, none⟩ (.int .i64 0)).setCell ⟨ab, 0, none⟩ (.int .i64 0)).alloc (.cells #[.int .i64 0, .int .i64 0] 56)) (fun k => W0.heap.size ≤ k) 38 (.slice sa sn sc) xs := HV.out.kept (fun k hk hlt => k2.block k hlt (fun h => by have : W0.heap.size ≤ k := hk; omega))
  generalize (((W1.setCell ⟨w.heap.size, 0, none⟩ (.slice sa sn sc)).setCell ⟨eb, 0, none⟩ (.int .i64 0)).setCell ⟨ab, 0, none⟩ (.int .i64 0)).alloc (.cells #[.int .i64 0, .int .i64 0] 56) = Wf at *
  have e0 := f1.cell (i := 0) rfl
  have e4 := f2.cell (i := 0) rfl
  have e5 := f3.cell (i := 0) rfl
  clear f1 f2 f3 k2 c0 cf c4 cf4 c5 cf5
  simp [Leaves, settle, results, Tryd.results10, e0, e4, e5, go_sem]
  refine ⟨⟨_, by rw [parse_ok H1.out]; rfl, ?_⟩, kf⟩
  rw [parse_ok H1.out]
  exact hl3.mono (fun k hk _ => by have : W0.heap.size ≤ k := hk; omega)
end Go.Proofs.YtlfjdohjfmfcdabDoor
