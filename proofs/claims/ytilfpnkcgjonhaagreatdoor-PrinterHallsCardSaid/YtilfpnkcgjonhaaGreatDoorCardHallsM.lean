/-
  The law PrinterHalls: its walk.
  The card of PrinterHalls: for every input the law returns true and leaves its arguments as they were; the listed variables hold what the program's text lays. No condition on the input.
-/
import Derived.Test.YtilfpnkcgjonhaaGreatDoorConvH
import Derived.Test.YtilfpnkcgjonhaaGreatDoorSameHall
import Derived.Test.YtilfpnkcgjonhaaGreatDoorHead8M
import Derived.Test.YtilfpnkcgjonhaaGreatDoorArgs
import Derived.ShutString
import Derived.ChangeOld
import Derived.Lib.SmallJoins
import Derived.Lay
namespace Go.Proofs.YtilfpnkcgjonhaaGreatDoor.Pr
open Go.RowKit Go.Sort Foyer.Printer Foyer.Lexer

theorem lk_since {α : Type} {K : Look α} {w w' : World} {v : Value} {xs : List α} (h : Lk K w w.heap.size v xs) (hb : Below w.heap.size w w') : Lk K w' w'.heap.size v xs := (h.below hb).mono hb.size
theorem short_of {t : List UInt8} (h : (lexAll t).2.1 = 0) : t.length ≤ 20000 := by
  rcases Nat.lt_or_ge 20000 t.length with hl | hl
  · rw [lexAll_long hl] at h; cases h
  · exact hl
theorem size_ok {t : List UInt8} (h : t.length ≤ 20000) : (⟨t.toArray⟩ : ByteArray).size ≤ 1000000 := by
  show t.toArray.size ≤ 1000000
  simp; omega
set_option linter.unusedSimpArgs false in
set_option maxRecDepth 100000 in
set_option maxHeartbeats 4000000 in
theorem halls_walk (h0 : HallZ) (p : Option Addr) (n cap : Nat) (w : World) (hr : Lk levelL w w.heap.size (.slice p n cap) h0.levels) (hv : HallZ.Wide h0) (hE : Env w) :
    Calls Tryz.prog 5 #[.agg #[.string ⟨h0.name.toArray⟩, .int .i64 h0.stage.x, .int .i64 h0.stage.y, .slice p n cap]] w fun e w' => e = .returned (.bool true) ∧ Below w.heap.size w w' := by
  obtain ⟨w0, hw0⟩ : ∃ w0, w.alloc (.cells #[.string ⟨h0.name.toArray⟩, .int .i64 h0.stage.x, .int .i64 h0.stage.y, .slice p n cap] 26) = w0 := ⟨_, rfl⟩
  have hb0 : Below w.heap.size w w0 := by rw [← hw0]; exact (Below.refl _ _).alloc (Nat.le_refl _) _
  have hk0 : Blk w0 w.heap.size 26 [.string ⟨h0.name.toArray⟩, .int .i64 h0.stage.x, .int .i64 h0.stage.y, .slice p n cap] := by rw [← hw0]; exact Blk.new _ _ _
  have HKB : Hid (∀ wr, Below w0.heap.size w0 wr → Blk wr w.heap.size 26 [.string ⟨h0.name.toArray⟩, .int .i64 h0.stage.x, .int .i64 h0.stage.y, .slice p n cap]) := Lib.hid fun wr hb => (hb.block _ hk0.lt).trans hk0
  have HIN : Hid (∀ wr, Below w0.heap.size w0 wr → Below w.heap.size w wr) := Lib.hid fun wr hb => hb0.trans (hb.mono hb0.size)
  have HR := Lib.hid hr; have HV := Lib.hid hv; have HE := Lib.hid hE
  have HE0 := Lib.hid (hE.since hb0)
  clear hk0 hb0 hr hv hE
  go_enter Tryz.func5, Tryz.ntmps5
  go_wp2_with fail
  refine (head_any w0 HE0.out).mono ?_; rintro e w1 ⟨rfl, hb1⟩
  clear hw0
  have H1 := Lib.hid hb1
  clear hb1
  have ca0 := (HKB.out _ H1.out).cell (i := 0) rfl
  have ca1 := (HKB.out _ H1.out).cell (i := 1) rfl
  have ca2 := (HKB.out _ H1.out).cell (i := 2) rfl
  have ca3 := (HKB.out _ H1.out).cell (i := 3) rfl
  go_wp2_with fail
  refine (few_any h0 p n cap w1 (lk_since HR.out (HIN.out _ H1.out))).mono ?_; rintro e w2 ⟨⟨y, rfl, hy⟩, hb2⟩
  have H2 := Lib.hid (H1.out.trans (hb2.mono H1.out.size))
  clear hb2 ca0 ca1 ca2 ca3
  have ca0 := (HKB.out _ H2.out).cell (i := 0) rfl
  have ca1 := (HKB.out _ H2.out).cell (i := 1) rfl
  have ca2 := (HKB.out _ H2.out).cell (i := 2) rfl
  have ca3 := (HKB.out _ H2.out).cell (i := 3) rfl
  cases y with
  | false =>
    clear hy
    go_wp2
    go_ret
    exact ⟨rfl, HIN.out _ H2.out⟩
  | true =>
    have HG := Lib.hid (HallZ.fit HV.out (hy rfl))
    clear hy
    go_wp2_with fail
    refine (printHall_any h0 HG.out p n cap w2 (HE.out.since (HIN.out _ H2.out)) (lk_since HR.out (HIN.out _ H2.out))).mono ?_; rintro e w3 ⟨rfl, hb3⟩
    have H3 := Lib.hid (H2.out.trans (hb3.mono H2.out.size))
    clear hb3 ca0 ca1 ca2 ca3
    rcases hallAll_ways h0 with ⟨hz, _, ht, hl⟩ | ⟨ht, he⟩
    · obtain ⟨rs, hp, hs⟩ := hall_round hz
      have hlen : (hallAll h0).1.length ≤ 20000 := by rw [ht]; exact short_of hl
      clear ht hl
      rw [hz]
      obtain ⟨tx, htx⟩ : ∃ tx, (hallAll h0).1 = tx := ⟨_, rfl⟩
      rw [htx] at hp hlen ⊢
      have HP := Lib.hid hp; have HS := Lib.hid hs; have HLEN := Lib.hid hlen
      clear hz htx hp hs hlen
      go_wp2_with fail
      refine (plan_h ⟨tx.toArray⟩ (size_ok HLEN.out) (rs, 0, 0) HP.out w3).mono ?_; rintro e w4 ⟨⟨q2, n2, c2, rfl, hlk⟩, hb4⟩
      have H4 := Lib.hid (H3.out.trans (hb4.mono H3.out.size))
      have HL := Lib.hid hlk
      clear hb4 hlk
      go_upto_region 8 with fail
      have hba : Below w4.heap.size w4 (w4.alloc (.cells #[.string ⟨(hallOf rs).name.toArray⟩, .int .i64 (hallOf rs).stage.x, .int .i64 (hallOf rs).stage.y, .slice q2 n2 c2] 26)) := (Below.refl _ _).alloc (Nat.le_refl _) _
      have b1 := Blk.new w4 26 [.string ⟨(hallOf rs).name.toArray⟩, .int .i64 (hallOf rs).stage.x, .int .i64 (hallOf rs).stage.y, .slice q2 n2 c2]
      have H5 := Lib.hid (H4.out.trans (hba.mono H4.out.size))
      have HL2 := Lib.hid (lk_since HL.out hba)
      clear hba HL
      generalize w4.alloc (.cells #[.string ⟨(hallOf rs).name.toArray⟩, .int .i64 (hallOf rs).stage.x, .int .i64 (hallOf rs).stage.y, .slice q2 n2 c2] 26) = w5 at *
      have y0 := b1.cell (i := 0) rfl
      have ca0 := (HKB.out _ H5.out).cell (i := 0) rfl
      have y1 := b1.cell (i := 1) rfl
      have ca1 := (HKB.out _ H5.out).cell (i := 1) rfl
      have y2 := b1.cell (i := 2) rfl
      have ca2 := (HKB.out _ H5.out).cell (i := 2) rfl
      have y3 := b1.cell (i := 3) rfl
      have ca3 := (HKB.out _ H5.out).cell (i := 3) rfl
      clear b1
      go_wp2_with fail
      refine (hall_same_any (hallOf rs) h0 q2 p n2 n c2 cap w5 HL2.out (lk_since HR.out (HIN.out _ H5.out))).mono ?_; rintro e w6 ⟨rfl, hb6⟩
      rw [decide_eq_true HS.out]
      have H6 := Lib.hid (H5.out.trans (hb6.mono H5.out.size))
      clear hb6 y0 y1 y2 y3 ca0 ca1 ca2 ca3
      go_wp2
      go_ret
      exact ⟨rfl, HIN.out _ H6.out⟩
    · rw [ht]
      rcases he with he | he <;> rw [he]
      · clear ht he
        go_wp2
        go_ret
        exact ⟨rfl, HIN.out _ H3.out⟩
      · clear ht he
        go_wp2
        go_ret
        exact ⟨rfl, HIN.out _ H3.out⟩
end Go.Proofs.YtilfpnkcgjonhaaGreatDoor.Pr
namespace Go.Proofs.YtilfpnkcgjonhaaGreatDoor.halls
open Go.ChangeShapes Go.WideShapes Go.ChangeAt Go.RowKit Go.Joins
open Go.ChangeMaps (open_string shut_string)
open Go.Proofs.YtilfpnkcgjonhaaGreatDoor.Pr

set_option maxRecDepth 100000 in
theorem contract (H : Type) (enc : TypeId × Value → H) (W : World) (base : Nat) (args : Array Value) (ds gs : List (DataW H)) (before : List MemPlace)
    (hval : ∀ (j : Nat) t v, Tryz.f5.params[j]? = some t → args[j]? = some v → Value.okWide Tryz.prog W .any base t v)
    (hW : DataW.Whole enc Tryz.prog Tryz.f5.params.toList Rows.printerHallsSpec.vars false W args.toList ds gs before) (hL : laidMetH Tryz.prog Rows.printerHallsRow.laid W) (hsh : W.ShapedOpen Tryz.prog) :
    Calls Tryz.prog 5 args W fun e W' => ∃ v, e = .returned v ∧ Rows.printerHallsSpec.post enc Tryz.prog Tryz.f5 false true false false W args v W' := by
  have hE : Env W := env_of hL hsh
  have hW' := hW
  obtain ⟨p, q, hA0, hV, rfl, hfz, hnd⟩ := hW
  have hA : DataW.TrodAll enc Tryz.prog W 0 (fun _ => true) true Tryz.f5.params.toList args.toList ds p := hA0
  rw [Tryz.params5] at hA hval
  obtain ⟨v0, vs0, d0, ds0, p0, q0, hargs, rfl, rfl, h0, r0⟩ := trodAll_cons hA
  obtain ⟨rfl, rfl, rfl⟩ := trodAll_nil r0
  obtain rfl : args = #[v0] := Array.toList_inj.1 hargs
  obtain ⟨rfl, rfl⟩ := trodVars_none hV
  have k0 := h0
  have lt0 : ∀ x ∈ p0, x.block < W.heap.size := by obtain ⟨m, hm⟩ := k0; exact DataW.trod_lt m _ _ _ hm
  obtain ⟨a0, s0, n0, c0, rfl, l0, w0⟩ := hall_open (hval 0 26 v0 rfl rfl) h0
  refine (halls_walk a0 s0 n0 c0 W l0 w0 hE).mono fun e W' ⟨he, bel⟩ => ?_
  subst he
  exact ⟨_, rfl, _, _, _, [], _, [], hW', trodAll_mk1 (shut_bool Tryz.underlying4 _), (trodAll_cons_mk (Below.trod laidOut (by kernel_rfl) (of_decide_eq_true (by kernel_rfl)) k0 bel lt0) trodAll_mk0), rfl, bel.frame _, fun h => by cases h⟩

/-- A start that fits: the door's own heap. -/
theorem laid_met (os : Os) : laidMet Tryz.prog Rows.printerHallsRow.laid ((World.laidAll Tryz.prog os Rows.printerHallsRow.laid).forCall (fun _ _ => 0) ⟨#[], #[.agg #[.string ByteArray.empty, .int .i64 0, .int .i64 0, .slice none 0 0]], []⟩).memory :=
  laidMet_laidAll _ (by kernel_rfl) (by kernel_rfl)
theorem reads (os : Os) {H : Type} (enc : TypeId × Value → H) : ∃ places, DataW.whole enc Tryz.prog ((World.laidAll Tryz.prog os Rows.printerHallsRow.laid).forCall (fun _ _ => 0) ⟨#[], #[.agg #[.string ByteArray.empty, .int .i64 0, .int .i64 0, .slice none 0 0]], []⟩).memory Tryz.f5.params.toList Rows.printerHallsSpec.vars false #[.agg #[.string ByteArray.empty, .int .i64 0, .int .i64 0, .slice none 0 0]].toList 8 = some ([.agg [.lit (.string []), .agg [.lit (.int .i64 0), .lit (.int .i64 0)], .nil]], [], places) :=
  ⟨[], by kernel_rfl⟩

set_option maxRecDepth 100000 in
theorem lifted (os : Os) (started : os.Started) (H : Type) (enc : TypeId × Value → H) (F : Stop.Interp) :
    ReturnsInHanded {} Tryz.checked os 5 .any ((OpenSpec.ofChange Rows.printerHallsSpec).preRow enc Tryz.prog Tryz.f5 Rows.printerHallsRow.domain false Rows.printerHallsRow.laid) (((OpenSpec.ofChange Rows.printerHallsSpec).at F).post enc Tryz.prog Tryz.f5 false true false false) := by
  obtain ⟨places, hx⟩ := reads os enc
  refine returnsInHanded_of_row (C := Tryz.checked) (s := OpenSpec.ofChange Rows.printerHallsSpec) own started (by kernel_rfl) Tryz.func5
    (witness_row_atRef (enc := enc) (C := Tryz.checked) false (World.laidAll Tryz.prog os Rows.printerHallsRow.laid) #[.agg #[.string ByteArray.empty, .int .i64 0, .int .i64 0, .slice none 0 0]] (World.laidAll_os _ _ _) (by kernel_rfl) (by kernel_rfl) (by kernel_rfl)
      (OpenSpec.preRow_of_cond 8 hx (by kernel_rfl) (fun k hk => by cases hk) (by kernel_rfl) (laid_met os))) ?_
  intro W base args ds gs before hval hW _ _ _ hL hsh _
  exact contract H enc W base args ds gs before hval hW hL hsh

theorem said : Rows.PrinterHallsSaid :=
  OpenClaim.holds_of_cond 5 Tryz.f5 rfl rfl rfl rfl rfl rfl rfl ⟨rfl, rfl, rfl, rfl, rfl⟩ rfl rfl rfl rfl rfl (by kernel_rfl) Tryz.func5 (by kernel_rfl)
    (of_decide_eq_true (by kernel_rfl)) (by unfold Func.isWrapper; first | (rw [if_pos (by decide +kernel)]; kernel_rfl) | (rw [if_neg (by decide +kernel)]; exact ⟨rfl, rfl⟩))
    (fun os started H enc _ F => by rw [OpenClaim.pre_eq_preRow]; exact lifted os started H enc F)

theorem plain (f : FuncId) (fn : Func) (hf : Tryz.pinned.checked.prog.funcNamed Rows.printerHallsRow.func = some f) (hfn : Tryz.pinned.checked.prog.funcs[f]? = some fn) :
    true = Tryz.pinned.checked.prog.looks [] ∧ ∀ (j : Nat) t, fn.params[j]? = some t → Tryz.pinned.checked.prog.wantsStandIn t = false := by
  obtain rfl : f = 5 := Option.some.inj ((show Tryz.prog.funcNamed Rows.printerHallsRow.func = some 5 by kernel_rfl).symm.trans hf) |>.symm
  obtain rfl : fn = Tryz.f5 := (Option.some.inj (Tryz.func5.symm.trans hfn)).symm
  refine ⟨by kernel_rfl, fun j t ht => ?_⟩
  rw [Tryz.params5] at ht
  have hm := Array.mem_of_getElem? ht
  have hall : (Tryz.f5.params.toList.all fun u => !Tryz.prog.wantsStandIn u) = true := by kernel_rfl
  rw [Tryz.params5] at hall
  have := List.all_eq_true.1 hall t (by simpa using hm)
  exact (show Tryz.prog.wantsStandIn t = false by simpa using this)

/-- THE CARD. -/
theorem card : Rows.PrinterHallsCardSaid :=
  Claim7.holds_tied_plain_at .later [] _ _ _ _ said (fun _ h => by cases h) (by kernel_rfl) (fun _ h => by cases h) printerHalls_row_tie rfl ⟨rfl, rfl⟩ (by kernel_rfl) rfl plain (by kernel_rfl)
end Go.Proofs.YtilfpnkcgjonhaaGreatDoor.halls
