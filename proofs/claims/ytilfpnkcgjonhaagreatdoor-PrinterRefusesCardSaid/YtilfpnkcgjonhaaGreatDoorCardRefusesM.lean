/-
  The law PrinterRefuses: its walk.
  The card of PrinterRefuses: for every input the law returns true and leaves its arguments as they were; the listed variables hold what the program's text lays. No condition on the input.
-/
import Derived.Test.YtilfpnkcgjonhaaGreatDoorListApp
import Derived.Test.YtilfpnkcgjonhaaGreatDoorHead8
import Derived.Test.YtilfpnkcgjonhaaGreatDoorWalkPrintH
import Derived.Test.YtilfpnkcgjonhaaGreatDoorWalkPrintR
import Derived.Test.YtilfpnkcgjonhaaGreatDoorArgs
import Derived.ShutString
import Derived.ChangeOld
import Derived.Lib.SmallJoins
import Derived.Lay
namespace Go.Proofs.YtilfpnkcgjonhaaGreatDoor.Pr
open Go.RowKit Go.Sort Foyer.Printer Foyer.Lexer

/-! ### What is refused -/
theorem refused_h {h : HallZ} (hb : hallOk h = false) : (hallAll h).2 = 1 := by rw [hallAll_eq, hb]; rfl
theorem refused_r {l : List ItemZ} (hb : rulesOk l = false) : (rulesAll l).2 = 1 := by rw [rulesAll_eq, hb]; rfl
theorem numOk_no {n : Int} (h : ¬ (0 ≤ n ∧ n ≤ 9999999999)) : numOk n = false := by
  unfold numOk
  by_cases h0 : 0 ≤ n
  · rw [decide_eq_false (fun e => h ⟨h0, e⟩)]; simp
  · rw [decide_eq_false h0]; rfl
def oneZ (h : HallZ) (n : Int) : HallZ := ⟨h.name, ⟨h.stage.x, n⟩, h.levels⟩
def twoZ (h : HallZ) : HallZ := ⟨h.name ++ [45], h.stage, h.levels⟩
def badLevel : LevelZ := ⟨[48], 0, [], [], [], [], [], 0⟩
def threeZ (h : HallZ) : HallZ := ⟨h.name, h.stage, h.levels ++ [badLevel]⟩
def fourX : ItemZ := ⟨2, [97, 32, 98], [], 0, ⟨0, 0⟩, ⟨0, 0⟩, 0⟩
def fiveT (n : Int) : TestZ := ⟨[97, 103, 101], 1, [], n, 0⟩
def fiveX (n : Int) : ItemZ := ⟨2, [97], [[fiveT n]], 0, ⟨0, 0⟩, ⟨0, 0⟩, 0⟩
theorem one_no (h : HallZ) {n : Int} (hn : ¬ (0 ≤ n ∧ n ≤ 9999999999)) : (hallAll (oneZ h n)).2 = 1 := refused_h (by
  unfold hallOk oneZ
  simp only [numOk_no hn, Bool.and_false, Bool.false_and])
theorem two_no (h : HallZ) : (hallAll (twoZ h)).2 = 1 := refused_h (by
  have : nameOk (h.name ++ [45]) = false := by
    unfold nameOk
    rw [List.all_append, show List.all [(45 : UInt8)] isWord = false by decide]
    simp
  unfold hallOk twoZ
  simp only [this, Bool.false_and])
theorem three_no (h : HallZ) : (hallAll (threeZ h)).2 = 1 := refused_h (by
  unfold hallOk threeZ
  simp only [List.all_append, show List.all [badLevel] levelOk = false by decide, Bool.and_false])
theorem four_no (l : List ItemZ) : (rulesAll (fourX :: l)).2 = 1 := refused_r (by
  unfold rulesOk
  rw [List.all_cons, show itemOk fourX = false by decide]
  simp)
theorem five_no (l : List ItemZ) {n : Int} (hn : ¬ (0 ≤ n ∧ n ≤ 9999999999)) : (rulesAll (fiveX n :: l)).2 = 1 := refused_r (by
  have : itemOk (fiveX n) = false := by
    unfold itemOk whenOk fiveX
    simp [testsOk, testOk, fiveT, numOk_no hn]
  unfold rulesOk
  rw [List.all_cons, this]
  simp)
theorem one_fit {h : HallZ} {n : Int} (hf : HallZ.Fit h) (hn : intOk n) : HallZ.Fit (oneZ h n) := ⟨hf.1, ⟨hf.2.1.1, hn⟩, hf.2.2⟩
theorem two_fit {h : HallZ} (hf : HallZ.Fit h) (hs : HallZ.Short h) : HallZ.Fit (twoZ h) := ⟨by
  show (h.name ++ [45]).length ≤ 1000000
  have : h.name.length ≤ 60 := hs.1
  rw [List.length_append, List.length_singleton]; omega, hf.2.1, hf.2.2⟩
theorem bad_fit : LevelZ.Fit badLevel := ⟨by show _ ≤ _; decide, by show _ ∧ _; decide, fun _ h => (by cases h), fun _ h => (by cases h), fun _ h => (by cases h), fun _ h => (by cases h), fun _ h => (by cases h)⟩
theorem three_fit {h : HallZ} (hf : HallZ.Fit h) : HallZ.Fit (threeZ h) := ⟨hf.1, hf.2.1, fun l hl => (List.mem_append.1 hl).elim (hf.2.2 l) fun k => by rw [List.mem_singleton] at k; subst k; exact bad_fit⟩
theorem four_fit {l : List ItemZ} (hf : ∀ x ∈ l, ItemZ.Fit x) : ∀ x ∈ fourX :: l, ItemZ.Fit x := fun x hx => (List.mem_cons.1 hx).elim (fun e => by subst e; exact ⟨by show _ ∧ _; decide, by show _ ≤ _; decide, fun _ h => (by cases h), by show _ ∧ _; decide, ⟨by show _ ∧ _; decide, by show _ ∧ _; decide⟩, ⟨by show _ ∧ _; decide, by show _ ∧ _; decide⟩⟩) (hf x)
theorem io0 : intOk 0 := by show _ ∧ _; decide
theorem io1 : intOk 1 := by show _ ∧ _; decide
theorem io2 : intOk 2 := by show _ ∧ _; decide
theorem no_a : nmOk [97] := by show _ ≤ _; decide
theorem no_age : nmOk [97, 103, 101] := by show _ ≤ _; decide
theorem no_nil : nmOk [] := by show _ ≤ _; decide
theorem five_fit {l : List ItemZ} {n : Int} (hf : ∀ x ∈ l, ItemZ.Fit x) (hn : intOk n) : ∀ x ∈ fiveX n :: l, ItemZ.Fit x := fun x hx => (List.mem_cons.1 hx).elim (fun e => by
  subst e
  exact ⟨io2, no_a, fun c hc t ht => by
    simp only [fiveX, List.mem_singleton] at hc
    subst hc
    rw [List.mem_singleton] at ht
    subst ht
    exact ⟨no_age, io1, no_nil, hn⟩, io0, ⟨io0, io0⟩, ⟨io0, io0⟩⟩) (hf x)
theorem cat_dash (l : List UInt8) : ((⟨l.toArray⟩ : ByteArray) ++ ⟨#[45]⟩) = ⟨(l ++ [45]).toArray⟩ := by
  apply ByteArray.ext
  rw [ByteArray.data_append]
  simp
theorem info_of {P : Program} {T : TypeId} {z : Option Value} {m b : Nat} (h : (P.info? T).map (fun i => (i.zero, i.size, i.bytes)) = some (z, m, b)) : ∃ i, P.info? T = some i ∧ i.zero = z ∧ i.size = m ∧ i.bytes = b := by
  cases hi : P.info? T with
  | none => rw [hi] at h; cases h
  | some i => rw [hi] at h; simp only [Option.map_some, Option.some.injEq, Prod.mk.injEq] at h; exact ⟨i, rfl, h.1, h.2.1, h.2.2⟩
theorem item_info : (Tryz.prog.info? 66).map (fun i => (i.zero, i.size, i.bytes)) = some (some (.agg #[.int .i64 0, .string ⟨#[]⟩, .slice none 0 0, .int .i64 0, .int .i64 0, .int .i64 0, .int .i64 0, .int .i64 0, .int .i64 0]), itemL.size, 96) := by kernel_rfl
theorem level_info : ((Tryz.prog.info? 50).map (fun i => (i.zero, i.size, i.bytes))) = some (some (.agg #[.string ⟨#[]⟩, .int .i64 0, .slice none 0 0, .slice none 0 0, .slice none 0 0, .slice none 0 0, .slice none 0 0, .int .i64 0]), levelL.size, 152) := by kernel_rfl
theorem lk_since {α : Type} {K : Look α} {w w' : World} {v : Value} {xs : List α} (h : Lk K w w.heap.size v xs) (hb : Below w.heap.size w w') : Lk K w' w'.heap.size v xs := (h.below hb).mono hb.size
theorem blk_since {X W : World} {b : Nat} {T : TypeId} {cs : List Value} (h : Blk X b T cs) (hb : Below X.heap.size X W) : Blk W b T cs := (hb.block _ h.lt).trans h

set_option linter.unusedSimpArgs false in
set_option maxRecDepth 100000 in
set_option maxHeartbeats 4000000 in
theorem refuses_core (h0 : HallZ) (p : Option Addr) (n cap : Nat) (l : List ItemZ) (q : Option Addr) (m cp : Nat) (z : Int) (hz : intOk z) (w : World) (hm : Lk levelL w w.heap.size (.slice p n cap) h0.levels) (hw : HallZ.Wide h0) (hr : Lk itemL w w.heap.size (.slice q m cp) l) (hv : WideR l) (hE : Env w) :
    Calls Tryz.prog 10 #[.agg #[.string ⟨h0.name.toArray⟩, .int .i64 h0.stage.x, .int .i64 h0.stage.y, .slice p n cap], .agg #[.slice q m cp], .int .i64 z] w fun e w' => e = .returned (.bool true) ∧ Below w.heap.size w w' := by
  obtain ⟨wa, hwa⟩ : ∃ wa, w.alloc (.cells #[.string ⟨h0.name.toArray⟩, .int .i64 h0.stage.x, .int .i64 h0.stage.y, .slice p n cap] 26) = wa := ⟨_, rfl⟩
  have hba : Below w.heap.size w wa := by rw [← hwa]; exact (Below.refl _ _).alloc (Nat.le_refl _) _
  have hka : Blk wa w.heap.size 26 [.string ⟨h0.name.toArray⟩, .int .i64 h0.stage.x, .int .i64 h0.stage.y, .slice p n cap] := by rw [← hwa]; exact Blk.new _ _ _
  have hsa : wa.heap.size = w.heap.size + 1 := by rw [← hwa]; simp
  obtain ⟨w0, hw0⟩ : ∃ w0, wa.alloc (.cells #[.slice q m cp] 29) = w0 := ⟨_, rfl⟩
  have hbb : Below wa.heap.size wa w0 := by rw [← hw0]; exact (Below.refl _ _).alloc (Nat.le_refl _) _
  have hkb : Blk w0 (w.heap.size + 1) 29 [.slice q m cp] := by rw [← hw0, ← hsa]; exact Blk.new _ _ _
  have hsb : w0.heap.size = w.heap.size + 2 := by rw [← hw0]; simp; omega
  have hb0 : Below w.heap.size w w0 := hba.trans (hbb.mono hba.size)
  have hka0 : Blk w0 w.heap.size 26 [.string ⟨h0.name.toArray⟩, .int .i64 h0.stage.x, .int .i64 h0.stage.y, .slice p n cap] := (hbb.block _ (by omega)).trans hka
  have HKA : Hid (∀ wr, Below w0.heap.size w0 wr → Blk wr w.heap.size 26 [.string ⟨h0.name.toArray⟩, .int .i64 h0.stage.x, .int .i64 h0.stage.y, .slice p n cap]) := Lib.hid fun wr hb => (hb.block _ (by omega)).trans hka0
  have HKB : Hid (∀ wr, Below w0.heap.size w0 wr → Blk wr (w.heap.size + 1) 29 [.slice q m cp]) := Lib.hid fun wr hb => (hb.block _ (by omega)).trans hkb
  have HIN : Hid (∀ wr, Below w0.heap.size w0 wr → Below w.heap.size w wr) := Lib.hid fun wr hb => hb0.trans (hb.mono hb0.size)
  have HM := Lib.hid hm; have HR := Lib.hid hr; have HW := Lib.hid hw; have HV := Lib.hid hv; have HE := Lib.hid hE; have HZ := Lib.hid hz
  have HE0 := Lib.hid (hE.since hb0)
  clear hba hka hbb hkb hb0 hka0 hm hr hw hv hE hz
  go_enter Tryz.func10, Tryz.ntmps10
  go_wp2_with fail
  refine (head_any w0 HE0.out).mono ?_; rintro e w1 ⟨rfl, hb1⟩
  clear hwa hw0 hsa hsb
  have H1 := Lib.hid hb1
  clear hb1
  have ca0 := (HKA.out _ H1.out).cell (i := 0) rfl
  have ca1 := (HKA.out _ H1.out).cell (i := 1) rfl
  have ca2 := (HKA.out _ H1.out).cell (i := 2) rfl
  have ca3 := (HKA.out _ H1.out).cell (i := 3) rfl
  have cb0 := (HKB.out _ H1.out).cell (i := 0) rfl
  go_wp2_with fail
  refine (few_any h0 p n cap w1 (lk_since HM.out (HIN.out _ H1.out))).mono ?_; rintro e w2 ⟨⟨y, rfl, hy⟩, hb2⟩
  have H2 := Lib.hid (H1.out.trans (hb2.mono H1.out.size))
  clear hb2
  clear ca0 ca1 ca2 ca3 cb0
  have ca0 := (HKA.out _ H2.out).cell (i := 0) rfl
  have ca1 := (HKA.out _ H2.out).cell (i := 1) rfl
  have ca2 := (HKA.out _ H2.out).cell (i := 2) rfl
  have ca3 := (HKA.out _ H2.out).cell (i := 3) rfl
  have cb0 := (HKB.out _ H2.out).cell (i := 0) rfl
  cases y with
  | false =>
    clear hy
    go_wp2
    go_ret
    exact ⟨rfl, HIN.out _ H2.out⟩
  | true =>
    have HS := Lib.hid (hy rfl)
    clear hy
    go_wp2_with fail
    refine (fewR_any l q m cp w2 (lk_since HR.out (HIN.out _ H2.out))).mono ?_; rintro e w3 ⟨⟨y, rfl, hy⟩, hb3⟩
    have H3 := Lib.hid (H2.out.trans (hb3.mono H2.out.size))
    clear hb3
    clear ca0 ca1 ca2 ca3 cb0
    have ca0 := (HKA.out _ H3.out).cell (i := 0) rfl
    have ca1 := (HKA.out _ H3.out).cell (i := 1) rfl
    have ca2 := (HKA.out _ H3.out).cell (i := 2) rfl
    have ca3 := (HKA.out _ H3.out).cell (i := 3) rfl
    have cb0 := (HKB.out _ H3.out).cell (i := 0) rfl
    cases y with
    | false =>
      clear hy
      go_wp2
      go_ret
      exact ⟨rfl, HIN.out _ H3.out⟩
    | true =>
      have HT := Lib.hid (hy rfl)
      clear hy
      by_cases hzr : 0 ≤ z ∧ z ≤ 9999999999
      · obtain ⟨hz0, hz1⟩ := hzr
        go_wp2
        go_ret
        exact ⟨rfl, HIN.out _ H3.out⟩
      · have HN := Lib.hid hzr
        have HF := Lib.hid (HallZ.fit HW.out HS.out)
        have HG := Lib.hid (fitR HV.out HT.out)
        have hcase : (¬ 0 ≤ z ∧ True) ∨ (0 ≤ z ∧ ¬ z ≤ 9999999999) := by
          by_cases h : 0 ≤ z
          · exact Or.inr ⟨h, fun k => hzr ⟨h, k⟩⟩
          · exact Or.inl ⟨h, trivial⟩
        clear hzr
        rcases hcase with ⟨hz0, hz1⟩ | ⟨hz0, hz1⟩
        · clear ca0 ca1 ca2 ca3 cb0
          have ca0 := (HKA.out _ H3.out).cell (i := 0) rfl
          have ca1 := (HKA.out _ H3.out).cell (i := 1) rfl
          have ca2 := (HKA.out _ H3.out).cell (i := 2) rfl
          have ca3 := (HKA.out _ H3.out).cell (i := 3) rfl
          go_upto_region 5 with fail
          have b1 := Blk.new w3 26 [.string ⟨h0.name.toArray⟩, .int .i64 h0.stage.x, .int .i64 h0.stage.y, .slice p n cap]
          have k1 : Below w0.heap.size w0 (w3.alloc (.cells #[.string ⟨h0.name.toArray⟩, .int .i64 h0.stage.x, .int .i64 h0.stage.y, .slice p n cap] 26)) := H3.out.alloc H3.out.size _
          obtain ⟨A, hA⟩ : ∃ A, w3.heap.size = A := ⟨_, rfl⟩
          have hA0 : w0.heap.size ≤ A := by rw [← hA]; exact H3.out.size
          rw [hA] at b1 ⊢
          clear ca0 ca1 ca2 ca3 hA
          generalize w3.alloc (.cells #[.string ⟨h0.name.toArray⟩, .int .i64 h0.stage.x, .int .i64 h0.stage.y, .slice p n cap] 26) = W1 at *
          have e2 := b1.cell (i := 2) rfl
          have f2 := b1.free 2
          have B1 := Lib.hid b1; have K1 := Lib.hid k1; have HA0 := Lib.hid hA0
          clear b1 k1 hA0
          go_upto_region 6 with fail
          have b2 : Blk (W1.setCell ⟨A, 2, none⟩ (.int .i64 z)) A 26 [.string ⟨h0.name.toArray⟩, .int .i64 h0.stage.x, .int .i64 z, .slice p n cap] := B1.out.set 2 _
          have k2 : Below w0.heap.size w0 (W1.setCell ⟨A, 2, none⟩ (.int .i64 z)) := K1.out.setCell (p := ⟨A, 2, none⟩) HA0.out _
          clear e2 f2 B1 K1
          generalize W1.setCell ⟨A, 2, none⟩ (.int .i64 z) = W2 at *
          have ca0 := (HKA.out _ k2).cell (i := 0) rfl
          have ca1 := (HKA.out _ k2).cell (i := 1) rfl
          have ca2 := (HKA.out _ k2).cell (i := 2) rfl
          have ca3 := (HKA.out _ k2).cell (i := 3) rfl
          have B2 := Lib.hid b2; have K2 := Lib.hid k2
          clear b2 k2
          go_upto_region 7 with fail
          have c1 := Blk.new W2 26 [.string ⟨h0.name.toArray⟩, .int .i64 h0.stage.x, .int .i64 h0.stage.y, .slice p n cap]
          have k3 : Below w0.heap.size w0 (W2.alloc (.cells #[.string ⟨h0.name.toArray⟩, .int .i64 h0.stage.x, .int .i64 h0.stage.y, .slice p n cap] 26)) := K2.out.alloc K2.out.size _
          have b3 := B2.out.alloc (.cells #[.string ⟨h0.name.toArray⟩, .int .i64 h0.stage.x, .int .i64 h0.stage.y, .slice p n cap] 26)
          obtain ⟨C, hC⟩ : ∃ C, W2.heap.size = C := ⟨_, rfl⟩
          have hAC : A < C := by rw [← hC]; exact B2.out.lt
          rw [hC] at c1 ⊢
          clear ca0 ca1 ca2 ca3 hC K2 B2
          generalize W2.alloc (.cells #[.string ⟨h0.name.toArray⟩, .int .i64 h0.stage.x, .int .i64 h0.stage.y, .slice p n cap] 26) = W3 at *
          have e0 := c1.cell (i := 0) rfl
          have f0 := c1.free 0
          have C1 := Lib.hid c1; have K3 := Lib.hid k3; have B3 := Lib.hid b3; have HAC := Lib.hid hAC
          clear c1 k3 b3 hAC
          have hcc : ¬ 9223372036854775807 < h0.name.length + 1 := by
            have := HS.out.1
            unfold nmS at this
            omega
          go_upto_region 8 with fail
          rw [cat_dash]
          have c2 : Blk (W3.setCell ⟨C, 0, none⟩ (.string ⟨(h0.name ++ [45]).toArray⟩)) C 26 [.string ⟨(h0.name ++ [45]).toArray⟩, .int .i64 h0.stage.x, .int .i64 h0.stage.y, .slice p n cap] := C1.out.set 0 _
          have b4 : Blk (W3.setCell ⟨C, 0, none⟩ (.string ⟨(h0.name ++ [45]).toArray⟩)) A 26 [.string ⟨h0.name.toArray⟩, .int .i64 h0.stage.x, .int .i64 z, .slice p n cap] := B3.out.other (p := ⟨C, 0, none⟩) (by have := HAC.out; show C ≠ A; omega) _
          have k4 : Below w0.heap.size w0 (W3.setCell ⟨C, 0, none⟩ (.string ⟨(h0.name ++ [45]).toArray⟩)) := K3.out.setCell (p := ⟨C, 0, none⟩) (by have := HAC.out; have := HA0.out; show w0.heap.size ≤ C; omega) _
          clear e0 f0 hcc C1 B3 K3
          generalize W3.setCell ⟨C, 0, none⟩ (.string ⟨(h0.name ++ [45]).toArray⟩) = W4 at *
          have ca0 := (HKA.out _ k4).cell (i := 0) rfl
          have ca1 := (HKA.out _ k4).cell (i := 1) rfl
          have ca2 := (HKA.out _ k4).cell (i := 2) rfl
          have ca3 := (HKA.out _ k4).cell (i := 3) rfl
          have B4 := Lib.hid b4; have C2 := Lib.hid c2; have K4 := Lib.hid k4
          clear b4 c2 k4
          go_upto_region 9 with fail
          have d1 := Blk.new W4 26 [.string ⟨h0.name.toArray⟩, .int .i64 h0.stage.x, .int .i64 h0.stage.y, .slice p n cap]
          have k5 : Below w0.heap.size w0 (W4.alloc (.cells #[.string ⟨h0.name.toArray⟩, .int .i64 h0.stage.x, .int .i64 h0.stage.y, .slice p n cap] 26)) := K4.out.alloc K4.out.size _
          have b5 := B4.out.alloc (.cells #[.string ⟨h0.name.toArray⟩, .int .i64 h0.stage.x, .int .i64 h0.stage.y, .slice p n cap] 26)
          have c3 := C2.out.alloc (.cells #[.string ⟨h0.name.toArray⟩, .int .i64 h0.stage.x, .int .i64 h0.stage.y, .slice p n cap] 26)
          obtain ⟨D, hD⟩ : ∃ D, W4.heap.size = D := ⟨_, rfl⟩
          have hDA : A < D := by rw [← hD]; exact B4.out.lt
          have hDC : C < D := by rw [← hD]; exact C2.out.lt
          have hD0 : w0.heap.size ≤ D := by rw [← hD]; exact K4.out.size
          rw [hD] at d1 ⊢
          clear ca0 ca1 ca2 ca3 hD K4 B4 C2 HAC HA0
          generalize W4.alloc (.cells #[.string ⟨h0.name.toArray⟩, .int .i64 h0.stage.x, .int .i64 h0.stage.y, .slice p n cap] 26) = W5 at *
          have D1 := Lib.hid d1; have K5 := Lib.hid k5; have B5 := Lib.hid b5; have C3 := Lib.hid c3; have HDA := Lib.hid hDA; have HDC := Lib.hid hDC; have HD0 := Lib.hid hD0
          clear d1 k5 b5 c3 hDA hDC hD0
          obtain ⟨i0, hi0, hz0', hz1', hz2'⟩ := info_of level_info
          have hH : w.heap.size ≤ W5.heap.size := (HIN.out _ K5.out).size
          have m0 := made_nil levelL W5 hH 50
          have k6 : Below w0.heap.size w0 (W5.alloc (.cells #[] 50)) := K5.out.alloc K5.out.size _
          have ca3 := (HKA.out _ k6).cell (i := 3) rfl
          have lv : Src levelL (W5.alloc (.cells #[] 50)) w.heap.size (.slice p n cap) h0.levels := (HM.out.below (HIN.out _ k6)).src (Nat.le_refl _)
          have hB0 : w.heap.size ≤ (W5.alloc (.cells #[] 50)).heap.size := by simp; omega
          have hl0 : ([] : List LevelZ).length + h0.levels.length ≤ 1000000 := by have := HS.out.2.1; simp; omega
          go_wp2_with (at_builtin; refine wpList_appends_lk (t := 24) Tryz.underlying24 hi0 hz0' hz1' hz2' rfl (by decide) (by decide) rfl _ _ rfl _ _ [] h0.levels rfl rfl m0 lv hl0 hB0 ?_)
          intro v1 X1 m1 g1 o1
          have hv1 := own_beyond (H := W5.heap.size) o1 (fun k hk => by cases hk; exact Nat.le_refl _) (by simp)
          have hB1 : W5.heap.size ≤ X1.heap.size := Nat.le_trans (by simp) g1.size
          have hB1' : w.heap.size ≤ X1.heap.size := Nat.le_trans hH hB1
          have m1' : Made levelL (X1.alloc (.cells #[.string ⟨#[48]⟩, .int .i64 0, .slice none 0 0, .slice none 0 0, .slice none 0 0, .slice none 0 0, .slice none 0 0, .int .i64 0] 50)) w.heap.size 50 v1 h0.levels := m1.since ((Below.refl _ _).alloc (Nat.le_refl _) _) hB1'
          have sl : Src levelL (X1.alloc (.cells #[.string ⟨#[48]⟩, .int .i64 0, .slice none 0 0, .slice none 0 0, .slice none 0 0, .slice none 0 0, .slice none 0 0, .int .i64 0] 50)) w.heap.size (.slice (some ⟨X1.heap.size, 0, none⟩) 1 1) [badLevel] :=
            src_one (K := levelL) (x := badLevel) (w := X1) (c := levelZC badLevel (.slice none 0 0) (.slice none 0 0) (.slice none 0 0) (.slice none 0 0) (.slice none 0 0)) (by exact ⟨_, _, _, _, _, rfl, ⟨lk_nil _ _ _, lk_nil _ _ _, lk_nil _ _ _, lk_nil _ _ _, lk_nil _ _ _⟩⟩) hB1' _
          have hB2 : w.heap.size ≤ (X1.alloc (.cells #[.string ⟨#[48]⟩, .int .i64 0, .slice none 0 0, .slice none 0 0, .slice none 0 0, .slice none 0 0, .slice none 0 0, .int .i64 0] 50)).heap.size := by rw [World.size_alloc]; omega
          have hl2 : h0.levels.length + [badLevel].length ≤ 1000000 := by have := HS.out.2.1; simp; omega
          go_wp2_with (at_builtin; refine wpList_appends_lk (t := 24) Tryz.underlying24 hi0 hz0' hz1' hz2' rfl (by decide) (by decide) rfl _ _ rfl _ _ h0.levels [badLevel] rfl rfl m1' sl hl2 hB2 ?_)
          intro v2 X3 m2 g2 o2
          have kb : Below W5.heap.size W5 X3 := by
            have h1 := Below.grew ((Below.refl W5.heap.size W5).alloc (Nat.le_refl _) (.cells #[] 50)) g1 (fun k hk => by cases hk; exact Nat.le_refl _) (by simp)
            exact Below.grew (h1.alloc hB1 (.cells #[.string ⟨#[48]⟩, .int .i64 0, .slice none 0 0, .slice none 0 0, .slice none 0 0, .slice none 0 0, .slice none 0 0, .int .i64 0] 50)) g2 hv1 (by rw [World.size_alloc]; omega)
          have hv2 := own_beyond (H := W5.heap.size) o2 hv1 (by omega)
          have hD5 : D < W5.heap.size := D1.out.lt
          obtain ⟨p2, cp2, rfl⟩ := m2.lk.slice
          obtain ⟨n2, hn2⟩ : ∃ n2, (h0.levels ++ [badLevel]).length = n2 := ⟨_, rfl⟩
          rw [hn2] at m2 hv2 ⊢
          have k8 : Below w0.heap.size w0 X3 := K5.out.trans (kb.mono K5.out.size)
          have d2 := blk_since D1.out kb
          have b6 := blk_since B5.out kb
          have c4 := blk_since C3.out kb
          have g3 := d2.cell (i := 3) rfl
          have f3 := d2.free 3
          have M2 := Lib.hid m2; have HV2 : Hid ((Value.slice p2 n2 cp2).ownBlock ≠ some D) := Lib.hid (fun e => by have := hv2 D e; omega)
          have HWD : Hid (w.heap.size ≤ D) := Lib.hid (Nat.le_trans (by have := HD0.out; have := (HIN.out w0 (Below.refl _ _)).size; exact this) HD0.out)
          have D2 := Lib.hid d2; have B6 := Lib.hid b6; have C4 := Lib.hid c4; have K8 := Lib.hid k8
          clear hH hB0 hl0 hB1 hB1' hB2 hl2 ca3 hv1 hv2 hD5 d2 b6 c4 k8 m0 k6 lv m1 g1 o1 m1' sl m2 g2 o2 kb hn2 hi0 hz0' hz1' hz2' D1 K5 B5 C3
          go_upto_region 10 with fail
          clear g3 f3
          have d3 : Blk (X3.setCell ⟨D, 3, none⟩ (.slice p2 n2 cp2)) D 26 [.string ⟨h0.name.toArray⟩, .int .i64 h0.stage.x, .int .i64 h0.stage.y, .slice p2 n2 cp2] := D2.out.set 3 _
          have b7 : Blk (X3.setCell ⟨D, 3, none⟩ (.slice p2 n2 cp2)) A 26 [.string ⟨h0.name.toArray⟩, .int .i64 h0.stage.x, .int .i64 z, .slice p n cap] := B6.out.other (p := ⟨D, 3, none⟩) (by have := HDA.out; show D ≠ A; omega) _
          have c5 : Blk (X3.setCell ⟨D, 3, none⟩ (.slice p2 n2 cp2)) C 26 [.string ⟨(h0.name ++ [45]).toArray⟩, .int .i64 h0.stage.x, .int .i64 h0.stage.y, .slice p n cap] := C4.out.other (p := ⟨D, 3, none⟩) (by have := HDC.out; show D ≠ C; omega) _
          have k9 : Below w0.heap.size w0 (X3.setCell ⟨D, 3, none⟩ (.slice p2 n2 cp2)) := K8.out.setCell (p := ⟨D, 3, none⟩) HD0.out _
          have l3 := (M2.out.other (i := 3) HWD.out HV2.out (.slice p2 n2 cp2)).lk
          have B7 := Lib.hid b7; have C5 := Lib.hid c5; have D3 := Lib.hid d3; have K9 := Lib.hid k9; have L3 := Lib.hid l3
          clear B6 C4 D2 K8 M2 HV2 HWD HDA HDC HD0 b7 c5 d3 k9 l3
          generalize (X3.setCell ⟨D, 3, none⟩ (.slice p2 n2 cp2)) = Y1 at *
          have y0 := B7.out.cell (i := 0) rfl
          have y1 := B7.out.cell (i := 1) rfl
          have y2 := B7.out.cell (i := 2) rfl
          have y3 := B7.out.cell (i := 3) rfl
          go_wp2_with fail
          refine (printHall_any (oneZ h0 z) (one_fit HF.out HZ.out) p n cap Y1 (HE.out.since (HIN.out _ K9.out)) (lk_since HM.out (HIN.out _ K9.out))).mono ?_; rintro e Y2 ⟨rfl, hb⟩
          rw [one_no h0 HN.out]
          have K10 := Lib.hid (K9.out.trans (hb.mono K9.out.size))
          have C6 := Lib.hid (blk_since C5.out hb); have D4 := Lib.hid (blk_since D3.out hb); have L4 := Lib.hid (lk_since L3.out hb)
          clear y0 y1 y2 y3 hb K9 C5 D3 L3 B7
          have y0 := C6.out.cell (i := 0) rfl
          have y1 := C6.out.cell (i := 1) rfl
          have y2 := C6.out.cell (i := 2) rfl
          have y3 := C6.out.cell (i := 3) rfl
          go_wp2_with fail
          refine (printHall_any (twoZ h0) (two_fit HF.out HS.out) p n cap Y2 (HE.out.since (HIN.out _ K10.out)) (lk_since HM.out (HIN.out _ K10.out))).mono ?_; rintro e Y3 ⟨rfl, hb⟩
          rw [two_no h0]
          have K11 := Lib.hid (K10.out.trans (hb.mono K10.out.size))
          have D5 := Lib.hid (blk_since D4.out hb); have L5 := Lib.hid (lk_since L4.out hb)
          clear y0 y1 y2 y3 hb K10 C6 D4 L4
          have y0 := D5.out.cell (i := 0) rfl
          have y1 := D5.out.cell (i := 1) rfl
          have y2 := D5.out.cell (i := 2) rfl
          have y3 := D5.out.cell (i := 3) rfl
          go_wp2_with fail
          refine (printHall_any (threeZ h0) (three_fit HF.out) p2 n2 cp2 Y3 (HE.out.since (HIN.out _ K11.out)) L5.out).mono ?_; rintro e Y4 ⟨rfl, hb⟩
          rw [three_no h0]
          have K12 := Lib.hid (K11.out.trans (hb.mono K11.out.size))
          clear y0 y1 y2 y3 hb K11 D5 L5
          obtain ⟨i1, hi0, hz0', hz1', hz2'⟩ := info_of item_info
          have k0 : Below w0.heap.size w0 (Y4.alloc (.cells #[.int .i64 2, .string ⟨#[97, 32, 98]⟩, .slice none 0 0, .int .i64 0, .int .i64 0, .int .i64 0, .int .i64 0, .int .i64 0, .int .i64 0] 66)) := K12.out.alloc K12.out.size _
          have hH : w.heap.size ≤ Y4.heap.size := (HIN.out _ K12.out).size
          have m0 : Made itemL (Y4.alloc (.cells #[.int .i64 2, .string ⟨#[97, 32, 98]⟩, .slice none 0 0, .int .i64 0, .int .i64 0, .int .i64 0, .int .i64 0, .int .i64 0, .int .i64 0] 66)) w.heap.size 66 (.slice (some ⟨Y4.heap.size, 0, none⟩) 1 1) [fourX] :=
            made_one (K := itemL) (x := fourX) (c := itemZC fourX (.slice none 0 0)) (by exact ⟨_, rfl, lk_nil _ _ _⟩) hH _
          have cb0 := (HKB.out _ k0).cell (i := 0) rfl
          have lv : Src itemL (Y4.alloc (.cells #[.int .i64 2, .string ⟨#[97, 32, 98]⟩, .slice none 0 0, .int .i64 0, .int .i64 0, .int .i64 0, .int .i64 0, .int .i64 0, .int .i64 0] 66)) w.heap.size (.slice q m cp) l := (HR.out.below (HIN.out _ k0)).src (Nat.le_refl _)
          have hB0 : w.heap.size ≤ (Y4.alloc (.cells #[.int .i64 2, .string ⟨#[97, 32, 98]⟩, .slice none 0 0, .int .i64 0, .int .i64 0, .int .i64 0, .int .i64 0, .int .i64 0, .int .i64 0] 66)).heap.size := by rw [World.size_alloc]; omega
          have hl0 : [fourX].length + l.length ≤ 1000000 := by have := HT.out.1; simp; omega
          go_wp2_with (at_builtin; refine wpList_appends_lk (t := 27) Tryz.underlying27 hi0 hz0' hz1' hz2' rfl (by decide) (by decide) rfl _ _ rfl _ _ [fourX] l rfl rfl m0 lv hl0 hB0 ?_)
          intro v3 Y5 m4 g4 o4
          have k1 : Below w0.heap.size w0 Y5 := Below.grew k0 g4 (fun k hk => by cases hk; exact K12.out.size) k0.size
          replace m4 : Made itemL Y5 w.heap.size 66 v3 (fourX :: l) := m4
          obtain ⟨p3, cp3, rfl⟩ := m4.lk.slice
          obtain ⟨n3, hn3⟩ : ∃ n3, (fourX :: l).length = n3 := ⟨_, rfl⟩
          rw [hn3] at m4 ⊢
          have M4 := Lib.hid m4; have K13 := Lib.hid k1
          clear hB0 hl0 lv cb0 m0 hH k0 g4 o4 hn3 m4 k1 K12
          go_upto_region 14 with fail
          have e1 := Blk.new Y5 29 [.slice p3 n3 cp3]
          have k2 : Below w0.heap.size w0 (Y5.alloc (.cells #[.slice p3 n3 cp3] 29)) := K13.out.alloc K13.out.size _
          have l4 : Lk itemL (Y5.alloc (.cells #[.slice p3 n3 cp3] 29)) (Y5.alloc (.cells #[.slice p3 n3 cp3] 29)).heap.size (.slice p3 n3 cp3) (fourX :: l) := lk_since M4.out.lk ((Below.refl _ _).alloc (Nat.le_refl _) _)
          obtain ⟨E, hE2⟩ : ∃ E, Y5.heap.size = E := ⟨_, rfl⟩
          rw [hE2] at e1 ⊢
          clear hE2 M4 K13
          generalize Y5.alloc (.cells #[.slice p3 n3 cp3] 29) = Z0 at *
          have k3 : Below w0.heap.size w0 (((Z0.alloc (.cells #[.string ⟨#[97, 103, 101]⟩, .int .i64 1, .string ⟨#[]⟩, .int .i64 z, .int .i64 0] 68)).alloc (.cells #[.slice (some ⟨Z0.heap.size, 0, none⟩) 1 1] 69)).alloc (.cells #[.int .i64 2, .string ⟨#[97]⟩, .slice (some ⟨Z0.heap.size + 1, 0, none⟩) 1 1, .int .i64 0, .int .i64 0, .int .i64 0, .int .i64 0, .int .i64 0, .int .i64 0] 66)) := ((k2.alloc k2.size _).alloc (by rw [World.size_alloc]; have := k2.size; omega) _).alloc (by rw [World.size_alloc, World.size_alloc]; have := k2.size; omega) _
          have b1 : Blk ((Z0.alloc (.cells #[.string ⟨#[97, 103, 101]⟩, .int .i64 1, .string ⟨#[]⟩, .int .i64 z, .int .i64 0] 68)).alloc (.cells #[.slice (some ⟨Z0.heap.size, 0, none⟩) 1 1] 69)) Z0.heap.size 68 (testZC (fiveT z)) := (Blk.new Z0 68 (testZC (fiveT z))).alloc _
          have b2 : Blk ((Z0.alloc (.cells #[.string ⟨#[97, 103, 101]⟩, .int .i64 1, .string ⟨#[]⟩, .int .i64 z, .int .i64 0] 68)).alloc (.cells #[.slice (some ⟨Z0.heap.size, 0, none⟩) 1 1] 69)) (Z0.heap.size + 1) 69 [.slice (some ⟨Z0.heap.size, 0, none⟩) 1 1] := by
            have := Blk.new (Z0.alloc (.cells #[.string ⟨#[97, 103, 101]⟩, .int .i64 1, .string ⟨#[]⟩, .int .i64 z, .int .i64 0] 68)) 69 [.slice (some ⟨Z0.heap.size, 0, none⟩) 1 1]
            rw [World.size_alloc] at this
            exact this
          have hs2 : ((Z0.alloc (.cells #[.string ⟨#[97, 103, 101]⟩, .int .i64 1, .string ⟨#[]⟩, .int .i64 z, .int .i64 0] 68)).alloc (.cells #[.slice (some ⟨Z0.heap.size, 0, none⟩) 1 1] 69)).heap.size = Z0.heap.size + 1 + 1 := by rw [World.size_alloc, World.size_alloc]
          have m0 : Made itemL (((Z0.alloc (.cells #[.string ⟨#[97, 103, 101]⟩, .int .i64 1, .string ⟨#[]⟩, .int .i64 z, .int .i64 0] 68)).alloc (.cells #[.slice (some ⟨Z0.heap.size, 0, none⟩) 1 1] 69)).alloc (.cells #[.int .i64 2, .string ⟨#[97]⟩, .slice (some ⟨Z0.heap.size + 1, 0, none⟩) 1 1, .int .i64 0, .int .i64 0, .int .i64 0, .int .i64 0, .int .i64 0, .int .i64 0] 66)) (Z0.heap.size + 1 + 1) 66 (.slice (some ⟨Z0.heap.size + 1 + 1, 0, none⟩) 1 1) [fiveX z] := by
            have := made_one (K := itemL) (w := (Z0.alloc (.cells #[.string ⟨#[97, 103, 101]⟩, .int .i64 1, .string ⟨#[]⟩, .int .i64 z, .int .i64 0] 68)).alloc (.cells #[.slice (some ⟨Z0.heap.size, 0, none⟩) 1 1] 69)) (B := Z0.heap.size + 1 + 1) (x := fiveX z) (c := itemZC (fiveX z) (.slice (some ⟨Z0.heap.size + 1, 0, none⟩) 1 1)) (by
              refine ⟨_, rfl, ?_⟩
              refine lk1 (K := testsL) b2 ⟨_, rfl, ?_⟩ (by omega)
              exact lk1 (K := testL) (x := fiveT z) b1 rfl (by omega)) (by omega) 66
            rw [hs2] at this
            exact this
          have cb0 := (HKB.out _ k3).cell (i := 0) rfl
          have hwZ : w.heap.size ≤ Z0.heap.size := (HIN.out _ k2).size
          have lv : Src itemL (((Z0.alloc (.cells #[.string ⟨#[97, 103, 101]⟩, .int .i64 1, .string ⟨#[]⟩, .int .i64 z, .int .i64 0] 68)).alloc (.cells #[.slice (some ⟨Z0.heap.size, 0, none⟩) 1 1] 69)).alloc (.cells #[.int .i64 2, .string ⟨#[97]⟩, .slice (some ⟨Z0.heap.size + 1, 0, none⟩) 1 1, .int .i64 0, .int .i64 0, .int .i64 0, .int .i64 0, .int .i64 0, .int .i64 0] 66)) (Z0.heap.size + 1 + 1) (.slice q m cp) l := (HR.out.below (HIN.out _ k3)).src (by omega)
          have hB0 : Z0.heap.size + 1 + 1 ≤ (((Z0.alloc (.cells #[.string ⟨#[97, 103, 101]⟩, .int .i64 1, .string ⟨#[]⟩, .int .i64 z, .int .i64 0] 68)).alloc (.cells #[.slice (some ⟨Z0.heap.size, 0, none⟩) 1 1] 69)).alloc (.cells #[.int .i64 2, .string ⟨#[97]⟩, .slice (some ⟨Z0.heap.size + 1, 0, none⟩) 1 1, .int .i64 0, .int .i64 0, .int .i64 0, .int .i64 0, .int .i64 0, .int .i64 0] 66)).heap.size := by rw [World.size_alloc, hs2]; omega
          have hl0 : [fiveX z].length + l.length ≤ 1000000 := by have := HT.out.1; simp; omega
          have E1 := Lib.hid e1; have L4 := Lib.hid l4; have K2 := Lib.hid k2
          clear e1 l4 b1 b2 hs2 k2 hwZ
          go_wp2_with (at_builtin; refine wpList_appends_lk (t := 27) Tryz.underlying27 hi0 hz0' hz1' hz2' rfl (by decide) (by decide) rfl _ _ rfl _ _ [fiveX z] l rfl rfl m0 lv hl0 hB0 ?_)
          intro v4 Z1 m5 g5 o5
          replace m5 : Made itemL Z1 (Z0.heap.size + 1 + 1) 66 v4 (fiveX z :: l) := m5
          have k4 : Below Z0.heap.size Z0 Z1 := Below.grew ((((Below.refl Z0.heap.size Z0).alloc (Nat.le_refl _) _).alloc (by rw [World.size_alloc]; omega) _).alloc (by rw [World.size_alloc, World.size_alloc]; omega) _) g5 (fun k hk => by cases hk; exact (by omega : Z0.heap.size ≤ Z0.heap.size + 1 + 1)) (by rw [World.size_alloc, World.size_alloc, World.size_alloc]; omega)
          obtain ⟨p4, cp4, rfl⟩ := m5.lk.slice
          obtain ⟨n4, hn4⟩ : ∃ n4, (fiveX z :: l).length = n4 := ⟨_, rfl⟩
          rw [hn4] at m5 ⊢
          have E2 := Lib.hid (blk_since E1.out k4); have L5 := Lib.hid (lk_since L4.out k4); have K3 := Lib.hid (K2.out.trans (k4.mono K2.out.size)); have M5 := Lib.hid m5.lk
          clear hB0 hl0 lv cb0 m0 k3 g5 o5 hn4 m5 k4 E1 L4 K2 hi0 hz0' hz1' hz2'
          go_upto_region 15 with fail
          have hba : Below Z1.heap.size Z1 (Z1.alloc (.cells #[.slice p4 n4 cp4] 29)) := (Below.refl _ _).alloc (Nat.le_refl _) _
          have f1 := Blk.new Z1 29 [.slice p4 n4 cp4]
          have E3 := Lib.hid (blk_since E2.out hba); have L6 := Lib.hid (lk_since L5.out hba); have L7 := Lib.hid (lk_since M5.out hba)
          have K4 := Lib.hid (K3.out.trans (hba.mono K3.out.size))
          obtain ⟨F, hF2⟩ : ∃ F, Z1.heap.size = F := ⟨_, rfl⟩
          rw [hF2] at f1 ⊢
          clear hF2 hba E2 L5 K3 M5
          generalize Z1.alloc (.cells #[.slice p4 n4 cp4] 29) = U0 at *
          have F1 := Lib.hid f1
          clear f1
          have y0 := E3.out.cell (i := 0) rfl
          go_wp2_with fail
          refine (printRules_any (fourX :: l) (four_fit HG.out) p3 n3 cp3 U0 (HE.out.since (HIN.out _ K4.out)) L6.out).mono ?_; rintro e U1 ⟨rfl, hb⟩
          rw [four_no l]
          have K5 := Lib.hid (K4.out.trans (hb.mono K4.out.size))
          have F2 := Lib.hid (blk_since F1.out hb); have L8 := Lib.hid (lk_since L7.out hb)
          clear y0 hb K4 E3 L6 F1 L7
          have y0 := F2.out.cell (i := 0) rfl
          go_wp2_with fail
          refine (printRules_any (fiveX z :: l) (five_fit HG.out HZ.out) p4 n4 cp4 U1 (HE.out.since (HIN.out _ K5.out)) L8.out).mono ?_; rintro e U2 ⟨rfl, hb⟩
          rw [five_no l HN.out]
          have K6 := Lib.hid (K5.out.trans (hb.mono K5.out.size))
          clear y0 hb K5 F2 L8
          go_wp2
          go_ret
          exact ⟨rfl, HIN.out _ K6.out⟩
        · clear ca0 ca1 ca2 ca3 cb0
          have ca0 := (HKA.out _ H3.out).cell (i := 0) rfl
          have ca1 := (HKA.out _ H3.out).cell (i := 1) rfl
          have ca2 := (HKA.out _ H3.out).cell (i := 2) rfl
          have ca3 := (HKA.out _ H3.out).cell (i := 3) rfl
          go_upto_region 5 with fail
          have b1 := Blk.new w3 26 [.string ⟨h0.name.toArray⟩, .int .i64 h0.stage.x, .int .i64 h0.stage.y, .slice p n cap]
          have k1 : Below w0.heap.size w0 (w3.alloc (.cells #[.string ⟨h0.name.toArray⟩, .int .i64 h0.stage.x, .int .i64 h0.stage.y, .slice p n cap] 26)) := H3.out.alloc H3.out.size _
          obtain ⟨A, hA⟩ : ∃ A, w3.heap.size = A := ⟨_, rfl⟩
          have hA0 : w0.heap.size ≤ A := by rw [← hA]; exact H3.out.size
          rw [hA] at b1 ⊢
          clear ca0 ca1 ca2 ca3 hA
          generalize w3.alloc (.cells #[.string ⟨h0.name.toArray⟩, .int .i64 h0.stage.x, .int .i64 h0.stage.y, .slice p n cap] 26) = W1 at *
          have e2 := b1.cell (i := 2) rfl
          have f2 := b1.free 2
          have B1 := Lib.hid b1; have K1 := Lib.hid k1; have HA0 := Lib.hid hA0
          clear b1 k1 hA0
          go_upto_region 6 with fail
          have b2 : Blk (W1.setCell ⟨A, 2, none⟩ (.int .i64 z)) A 26 [.string ⟨h0.name.toArray⟩, .int .i64 h0.stage.x, .int .i64 z, .slice p n cap] := B1.out.set 2 _
          have k2 : Below w0.heap.size w0 (W1.setCell ⟨A, 2, none⟩ (.int .i64 z)) := K1.out.setCell (p := ⟨A, 2, none⟩) HA0.out _
          clear e2 f2 B1 K1
          generalize W1.setCell ⟨A, 2, none⟩ (.int .i64 z) = W2 at *
          have ca0 := (HKA.out _ k2).cell (i := 0) rfl
          have ca1 := (HKA.out _ k2).cell (i := 1) rfl
          have ca2 := (HKA.out _ k2).cell (i := 2) rfl
          have ca3 := (HKA.out _ k2).cell (i := 3) rfl
          have B2 := Lib.hid b2; have K2 := Lib.hid k2
          clear b2 k2
          go_upto_region 7 with fail
          have c1 := Blk.new W2 26 [.string ⟨h0.name.toArray⟩, .int .i64 h0.stage.x, .int .i64 h0.stage.y, .slice p n cap]
          have k3 : Below w0.heap.size w0 (W2.alloc (.cells #[.string ⟨h0.name.toArray⟩, .int .i64 h0.stage.x, .int .i64 h0.stage.y, .slice p n cap] 26)) := K2.out.alloc K2.out.size _
          have b3 := B2.out.alloc (.cells #[.string ⟨h0.name.toArray⟩, .int .i64 h0.stage.x, .int .i64 h0.stage.y, .slice p n cap] 26)
          obtain ⟨C, hC⟩ : ∃ C, W2.heap.size = C := ⟨_, rfl⟩
          have hAC : A < C := by rw [← hC]; exact B2.out.lt
          rw [hC] at c1 ⊢
          clear ca0 ca1 ca2 ca3 hC K2 B2
          generalize W2.alloc (.cells #[.string ⟨h0.name.toArray⟩, .int .i64 h0.stage.x, .int .i64 h0.stage.y, .slice p n cap] 26) = W3 at *
          have e0 := c1.cell (i := 0) rfl
          have f0 := c1.free 0
          have C1 := Lib.hid c1; have K3 := Lib.hid k3; have B3 := Lib.hid b3; have HAC := Lib.hid hAC
          clear c1 k3 b3 hAC
          have hcc : ¬ 9223372036854775807 < h0.name.length + 1 := by
            have := HS.out.1
            unfold nmS at this
            omega
          go_upto_region 8 with fail
          rw [cat_dash]
          have c2 : Blk (W3.setCell ⟨C, 0, none⟩ (.string ⟨(h0.name ++ [45]).toArray⟩)) C 26 [.string ⟨(h0.name ++ [45]).toArray⟩, .int .i64 h0.stage.x, .int .i64 h0.stage.y, .slice p n cap] := C1.out.set 0 _
          have b4 : Blk (W3.setCell ⟨C, 0, none⟩ (.string ⟨(h0.name ++ [45]).toArray⟩)) A 26 [.string ⟨h0.name.toArray⟩, .int .i64 h0.stage.x, .int .i64 z, .slice p n cap] := B3.out.other (p := ⟨C, 0, none⟩) (by have := HAC.out; show C ≠ A; omega) _
          have k4 : Below w0.heap.size w0 (W3.setCell ⟨C, 0, none⟩ (.string ⟨(h0.name ++ [45]).toArray⟩)) := K3.out.setCell (p := ⟨C, 0, none⟩) (by have := HAC.out; have := HA0.out; show w0.heap.size ≤ C; omega) _
          clear e0 f0 hcc C1 B3 K3
          generalize W3.setCell ⟨C, 0, none⟩ (.string ⟨(h0.name ++ [45]).toArray⟩) = W4 at *
          have ca0 := (HKA.out _ k4).cell (i := 0) rfl
          have ca1 := (HKA.out _ k4).cell (i := 1) rfl
          have ca2 := (HKA.out _ k4).cell (i := 2) rfl
          have ca3 := (HKA.out _ k4).cell (i := 3) rfl
          have B4 := Lib.hid b4; have C2 := Lib.hid c2; have K4 := Lib.hid k4
          clear b4 c2 k4
          go_upto_region 9 with fail
          have d1 := Blk.new W4 26 [.string ⟨h0.name.toArray⟩, .int .i64 h0.stage.x, .int .i64 h0.stage.y, .slice p n cap]
          have k5 : Below w0.heap.size w0 (W4.alloc (.cells #[.string ⟨h0.name.toArray⟩, .int .i64 h0.stage.x, .int .i64 h0.stage.y, .slice p n cap] 26)) := K4.out.alloc K4.out.size _
          have b5 := B4.out.alloc (.cells #[.string ⟨h0.name.toArray⟩, .int .i64 h0.stage.x, .int .i64 h0.stage.y, .slice p n cap] 26)
          have c3 := C2.out.alloc (.cells #[.string ⟨h0.name.toArray⟩, .int .i64 h0.stage.x, .int .i64 h0.stage.y, .slice p n cap] 26)
          obtain ⟨D, hD⟩ : ∃ D, W4.heap.size = D := ⟨_, rfl⟩
          have hDA : A < D := by rw [← hD]; exact B4.out.lt
          have hDC : C < D := by rw [← hD]; exact C2.out.lt
          have hD0 : w0.heap.size ≤ D := by rw [← hD]; exact K4.out.size
          rw [hD] at d1 ⊢
          clear ca0 ca1 ca2 ca3 hD K4 B4 C2 HAC HA0
          generalize W4.alloc (.cells #[.string ⟨h0.name.toArray⟩, .int .i64 h0.stage.x, .int .i64 h0.stage.y, .slice p n cap] 26) = W5 at *
          have D1 := Lib.hid d1; have K5 := Lib.hid k5; have B5 := Lib.hid b5; have C3 := Lib.hid c3; have HDA := Lib.hid hDA; have HDC := Lib.hid hDC; have HD0 := Lib.hid hD0
          clear d1 k5 b5 c3 hDA hDC hD0
          obtain ⟨i0, hi0, hz0', hz1', hz2'⟩ := info_of level_info
          have hH : w.heap.size ≤ W5.heap.size := (HIN.out _ K5.out).size
          have m0 := made_nil levelL W5 hH 50
          have k6 : Below w0.heap.size w0 (W5.alloc (.cells #[] 50)) := K5.out.alloc K5.out.size _
          have ca3 := (HKA.out _ k6).cell (i := 3) rfl
          have lv : Src levelL (W5.alloc (.cells #[] 50)) w.heap.size (.slice p n cap) h0.levels := (HM.out.below (HIN.out _ k6)).src (Nat.le_refl _)
          have hB0 : w.heap.size ≤ (W5.alloc (.cells #[] 50)).heap.size := by simp; omega
          have hl0 : ([] : List LevelZ).length + h0.levels.length ≤ 1000000 := by have := HS.out.2.1; simp; omega
          go_wp2_with (at_builtin; refine wpList_appends_lk (t := 24) Tryz.underlying24 hi0 hz0' hz1' hz2' rfl (by decide) (by decide) rfl _ _ rfl _ _ [] h0.levels rfl rfl m0 lv hl0 hB0 ?_)
          intro v1 X1 m1 g1 o1
          have hv1 := own_beyond (H := W5.heap.size) o1 (fun k hk => by cases hk; exact Nat.le_refl _) (by simp)
          have hB1 : W5.heap.size ≤ X1.heap.size := Nat.le_trans (by simp) g1.size
          have hB1' : w.heap.size ≤ X1.heap.size := Nat.le_trans hH hB1
          have m1' : Made levelL (X1.alloc (.cells #[.string ⟨#[48]⟩, .int .i64 0, .slice none 0 0, .slice none 0 0, .slice none 0 0, .slice none 0 0, .slice none 0 0, .int .i64 0] 50)) w.heap.size 50 v1 h0.levels := m1.since ((Below.refl _ _).alloc (Nat.le_refl _) _) hB1'
          have sl : Src levelL (X1.alloc (.cells #[.string ⟨#[48]⟩, .int .i64 0, .slice none 0 0, .slice none 0 0, .slice none 0 0, .slice none 0 0, .slice none 0 0, .int .i64 0] 50)) w.heap.size (.slice (some ⟨X1.heap.size, 0, none⟩) 1 1) [badLevel] :=
            src_one (K := levelL) (x := badLevel) (w := X1) (c := levelZC badLevel (.slice none 0 0) (.slice none 0 0) (.slice none 0 0) (.slice none 0 0) (.slice none 0 0)) (by exact ⟨_, _, _, _, _, rfl, ⟨lk_nil _ _ _, lk_nil _ _ _, lk_nil _ _ _, lk_nil _ _ _, lk_nil _ _ _⟩⟩) hB1' _
          have hB2 : w.heap.size ≤ (X1.alloc (.cells #[.string ⟨#[48]⟩, .int .i64 0, .slice none 0 0, .slice none 0 0, .slice none 0 0, .slice none 0 0, .slice none 0 0, .int .i64 0] 50)).heap.size := by rw [World.size_alloc]; omega
          have hl2 : h0.levels.length + [badLevel].length ≤ 1000000 := by have := HS.out.2.1; simp; omega
          go_wp2_with (at_builtin; refine wpList_appends_lk (t := 24) Tryz.underlying24 hi0 hz0' hz1' hz2' rfl (by decide) (by decide) rfl _ _ rfl _ _ h0.levels [badLevel] rfl rfl m1' sl hl2 hB2 ?_)
          intro v2 X3 m2 g2 o2
          have kb : Below W5.heap.size W5 X3 := by
            have h1 := Below.grew ((Below.refl W5.heap.size W5).alloc (Nat.le_refl _) (.cells #[] 50)) g1 (fun k hk => by cases hk; exact Nat.le_refl _) (by simp)
            exact Below.grew (h1.alloc hB1 (.cells #[.string ⟨#[48]⟩, .int .i64 0, .slice none 0 0, .slice none 0 0, .slice none 0 0, .slice none 0 0, .slice none 0 0, .int .i64 0] 50)) g2 hv1 (by rw [World.size_alloc]; omega)
          have hv2 := own_beyond (H := W5.heap.size) o2 hv1 (by omega)
          have hD5 : D < W5.heap.size := D1.out.lt
          obtain ⟨p2, cp2, rfl⟩ := m2.lk.slice
          obtain ⟨n2, hn2⟩ : ∃ n2, (h0.levels ++ [badLevel]).length = n2 := ⟨_, rfl⟩
          rw [hn2] at m2 hv2 ⊢
          have k8 : Below w0.heap.size w0 X3 := K5.out.trans (kb.mono K5.out.size)
          have d2 := blk_since D1.out kb
          have b6 := blk_since B5.out kb
          have c4 := blk_since C3.out kb
          have g3 := d2.cell (i := 3) rfl
          have f3 := d2.free 3
          have M2 := Lib.hid m2; have HV2 : Hid ((Value.slice p2 n2 cp2).ownBlock ≠ some D) := Lib.hid (fun e => by have := hv2 D e; omega)
          have HWD : Hid (w.heap.size ≤ D) := Lib.hid (Nat.le_trans (by have := HD0.out; have := (HIN.out w0 (Below.refl _ _)).size; exact this) HD0.out)
          have D2 := Lib.hid d2; have B6 := Lib.hid b6; have C4 := Lib.hid c4; have K8 := Lib.hid k8
          clear hH hB0 hl0 hB1 hB1' hB2 hl2 ca3 hv1 hv2 hD5 d2 b6 c4 k8 m0 k6 lv m1 g1 o1 m1' sl m2 g2 o2 kb hn2 hi0 hz0' hz1' hz2' D1 K5 B5 C3
          go_upto_region 10 with fail
          clear g3 f3
          have d3 : Blk (X3.setCell ⟨D, 3, none⟩ (.slice p2 n2 cp2)) D 26 [.string ⟨h0.name.toArray⟩, .int .i64 h0.stage.x, .int .i64 h0.stage.y, .slice p2 n2 cp2] := D2.out.set 3 _
          have b7 : Blk (X3.setCell ⟨D, 3, none⟩ (.slice p2 n2 cp2)) A 26 [.string ⟨h0.name.toArray⟩, .int .i64 h0.stage.x, .int .i64 z, .slice p n cap] := B6.out.other (p := ⟨D, 3, none⟩) (by have := HDA.out; show D ≠ A; omega) _
          have c5 : Blk (X3.setCell ⟨D, 3, none⟩ (.slice p2 n2 cp2)) C 26 [.string ⟨(h0.name ++ [45]).toArray⟩, .int .i64 h0.stage.x, .int .i64 h0.stage.y, .slice p n cap] := C4.out.other (p := ⟨D, 3, none⟩) (by have := HDC.out; show D ≠ C; omega) _
          have k9 : Below w0.heap.size w0 (X3.setCell ⟨D, 3, none⟩ (.slice p2 n2 cp2)) := K8.out.setCell (p := ⟨D, 3, none⟩) HD0.out _
          have l3 := (M2.out.other (i := 3) HWD.out HV2.out (.slice p2 n2 cp2)).lk
          have B7 := Lib.hid b7; have C5 := Lib.hid c5; have D3 := Lib.hid d3; have K9 := Lib.hid k9; have L3 := Lib.hid l3
          clear B6 C4 D2 K8 M2 HV2 HWD HDA HDC HD0 b7 c5 d3 k9 l3
          generalize (X3.setCell ⟨D, 3, none⟩ (.slice p2 n2 cp2)) = Y1 at *
          have y0 := B7.out.cell (i := 0) rfl
          have y1 := B7.out.cell (i := 1) rfl
          have y2 := B7.out.cell (i := 2) rfl
          have y3 := B7.out.cell (i := 3) rfl
          go_wp2_with fail
          refine (printHall_any (oneZ h0 z) (one_fit HF.out HZ.out) p n cap Y1 (HE.out.since (HIN.out _ K9.out)) (lk_since HM.out (HIN.out _ K9.out))).mono ?_; rintro e Y2 ⟨rfl, hb⟩
          rw [one_no h0 HN.out]
          have K10 := Lib.hid (K9.out.trans (hb.mono K9.out.size))
          have C6 := Lib.hid (blk_since C5.out hb); have D4 := Lib.hid (blk_since D3.out hb); have L4 := Lib.hid (lk_since L3.out hb)
          clear y0 y1 y2 y3 hb K9 C5 D3 L3 B7
          have y0 := C6.out.cell (i := 0) rfl
          have y1 := C6.out.cell (i := 1) rfl
          have y2 := C6.out.cell (i := 2) rfl
          have y3 := C6.out.cell (i := 3) rfl
          go_wp2_with fail
          refine (printHall_any (twoZ h0) (two_fit HF.out HS.out) p n cap Y2 (HE.out.since (HIN.out _ K10.out)) (lk_since HM.out (HIN.out _ K10.out))).mono ?_; rintro e Y3 ⟨rfl, hb⟩
          rw [two_no h0]
          have K11 := Lib.hid (K10.out.trans (hb.mono K10.out.size))
          have D5 := Lib.hid (blk_since D4.out hb); have L5 := Lib.hid (lk_since L4.out hb)
          clear y0 y1 y2 y3 hb K10 C6 D4 L4
          have y0 := D5.out.cell (i := 0) rfl
          have y1 := D5.out.cell (i := 1) rfl
          have y2 := D5.out.cell (i := 2) rfl
          have y3 := D5.out.cell (i := 3) rfl
          go_wp2_with fail
          refine (printHall_any (threeZ h0) (three_fit HF.out) p2 n2 cp2 Y3 (HE.out.since (HIN.out _ K11.out)) L5.out).mono ?_; rintro e Y4 ⟨rfl, hb⟩
          rw [three_no h0]
          have K12 := Lib.hid (K11.out.trans (hb.mono K11.out.size))
          clear y0 y1 y2 y3 hb K11 D5 L5
          obtain ⟨i1, hi0, hz0', hz1', hz2'⟩ := info_of item_info
          have k0 : Below w0.heap.size w0 (Y4.alloc (.cells #[.int .i64 2, .string ⟨#[97, 32, 98]⟩, .slice none 0 0, .int .i64 0, .int .i64 0, .int .i64 0, .int .i64 0, .int .i64 0, .int .i64 0] 66)) := K12.out.alloc K12.out.size _
          have hH : w.heap.size ≤ Y4.heap.size := (HIN.out _ K12.out).size
          have m0 : Made itemL (Y4.alloc (.cells #[.int .i64 2, .string ⟨#[97, 32, 98]⟩, .slice none 0 0, .int .i64 0, .int .i64 0, .int .i64 0, .int .i64 0, .int .i64 0, .int .i64 0] 66)) w.heap.size 66 (.slice (some ⟨Y4.heap.size, 0, none⟩) 1 1) [fourX] :=
            made_one (K := itemL) (x := fourX) (c := itemZC fourX (.slice none 0 0)) (by exact ⟨_, rfl, lk_nil _ _ _⟩) hH _
          have cb0 := (HKB.out _ k0).cell (i := 0) rfl
          have lv : Src itemL (Y4.alloc (.cells #[.int .i64 2, .string ⟨#[97, 32, 98]⟩, .slice none 0 0, .int .i64 0, .int .i64 0, .int .i64 0, .int .i64 0, .int .i64 0, .int .i64 0] 66)) w.heap.size (.slice q m cp) l := (HR.out.below (HIN.out _ k0)).src (Nat.le_refl _)
          have hB0 : w.heap.size ≤ (Y4.alloc (.cells #[.int .i64 2, .string ⟨#[97, 32, 98]⟩, .slice none 0 0, .int .i64 0, .int .i64 0, .int .i64 0, .int .i64 0, .int .i64 0, .int .i64 0] 66)).heap.size := by rw [World.size_alloc]; omega
          have hl0 : [fourX].length + l.length ≤ 1000000 := by have := HT.out.1; simp; omega
          go_wp2_with (at_builtin; refine wpList_appends_lk (t := 27) Tryz.underlying27 hi0 hz0' hz1' hz2' rfl (by decide) (by decide) rfl _ _ rfl _ _ [fourX] l rfl rfl m0 lv hl0 hB0 ?_)
          intro v3 Y5 m4 g4 o4
          have k1 : Below w0.heap.size w0 Y5 := Below.grew k0 g4 (fun k hk => by cases hk; exact K12.out.size) k0.size
          replace m4 : Made itemL Y5 w.heap.size 66 v3 (fourX :: l) := m4
          obtain ⟨p3, cp3, rfl⟩ := m4.lk.slice
          obtain ⟨n3, hn3⟩ : ∃ n3, (fourX :: l).length = n3 := ⟨_, rfl⟩
          rw [hn3] at m4 ⊢
          have M4 := Lib.hid m4; have K13 := Lib.hid k1
          clear hB0 hl0 lv cb0 m0 hH k0 g4 o4 hn3 m4 k1 K12
          go_upto_region 14 with fail
          have e1 := Blk.new Y5 29 [.slice p3 n3 cp3]
          have k2 : Below w0.heap.size w0 (Y5.alloc (.cells #[.slice p3 n3 cp3] 29)) := K13.out.alloc K13.out.size _
          have l4 : Lk itemL (Y5.alloc (.cells #[.slice p3 n3 cp3] 29)) (Y5.alloc (.cells #[.slice p3 n3 cp3] 29)).heap.size (.slice p3 n3 cp3) (fourX :: l) := lk_since M4.out.lk ((Below.refl _ _).alloc (Nat.le_refl _) _)
          obtain ⟨E, hE2⟩ : ∃ E, Y5.heap.size = E := ⟨_, rfl⟩
          rw [hE2] at e1 ⊢
          clear hE2 M4 K13
          generalize Y5.alloc (.cells #[.slice p3 n3 cp3] 29) = Z0 at *
          have k3 : Below w0.heap.size w0 (((Z0.alloc (.cells #[.string ⟨#[97, 103, 101]⟩, .int .i64 1, .string ⟨#[]⟩, .int .i64 z, .int .i64 0] 68)).alloc (.cells #[.slice (some ⟨Z0.heap.size, 0, none⟩) 1 1] 69)).alloc (.cells #[.int .i64 2, .string ⟨#[97]⟩, .slice (some ⟨Z0.heap.size + 1, 0, none⟩) 1 1, .int .i64 0, .int .i64 0, .int .i64 0, .int .i64 0, .int .i64 0, .int .i64 0] 66)) := ((k2.alloc k2.size _).alloc (by rw [World.size_alloc]; have := k2.size; omega) _).alloc (by rw [World.size_alloc, World.size_alloc]; have := k2.size; omega) _
          have b1 : Blk ((Z0.alloc (.cells #[.string ⟨#[97, 103, 101]⟩, .int .i64 1, .string ⟨#[]⟩, .int .i64 z, .int .i64 0] 68)).alloc (.cells #[.slice (some ⟨Z0.heap.size, 0, none⟩) 1 1] 69)) Z0.heap.size 68 (testZC (fiveT z)) := (Blk.new Z0 68 (testZC (fiveT z))).alloc _
          have b2 : Blk ((Z0.alloc (.cells #[.string ⟨#[97, 103, 101]⟩, .int .i64 1, .string ⟨#[]⟩, .int .i64 z, .int .i64 0] 68)).alloc (.cells #[.slice (some ⟨Z0.heap.size, 0, none⟩) 1 1] 69)) (Z0.heap.size + 1) 69 [.slice (some ⟨Z0.heap.size, 0, none⟩) 1 1] := by
            have := Blk.new (Z0.alloc (.cells #[.string ⟨#[97, 103, 101]⟩, .int .i64 1, .string ⟨#[]⟩, .int .i64 z, .int .i64 0] 68)) 69 [.slice (some ⟨Z0.heap.size, 0, none⟩) 1 1]
            rw [World.size_alloc] at this
            exact this
          have hs2 : ((Z0.alloc (.cells #[.string ⟨#[97, 103, 101]⟩, .int .i64 1, .string ⟨#[]⟩, .int .i64 z, .int .i64 0] 68)).alloc (.cells #[.slice (some ⟨Z0.heap.size, 0, none⟩) 1 1] 69)).heap.size = Z0.heap.size + 1 + 1 := by rw [World.size_alloc, World.size_alloc]
          have m0 : Made itemL (((Z0.alloc (.cells #[.string ⟨#[97, 103, 101]⟩, .int .i64 1, .string ⟨#[]⟩, .int .i64 z, .int .i64 0] 68)).alloc (.cells #[.slice (some ⟨Z0.heap.size, 0, none⟩) 1 1] 69)).alloc (.cells #[.int .i64 2, .string ⟨#[97]⟩, .slice (some ⟨Z0.heap.size + 1, 0, none⟩) 1 1, .int .i64 0, .int .i64 0, .int .i64 0, .int .i64 0, .int .i64 0, .int .i64 0] 66)) (Z0.heap.size + 1 + 1) 66 (.slice (some ⟨Z0.heap.size + 1 + 1, 0, none⟩) 1 1) [fiveX z] := by
            have := made_one (K := itemL) (w := (Z0.alloc (.cells #[.string ⟨#[97, 103, 101]⟩, .int .i64 1, .string ⟨#[]⟩, .int .i64 z, .int .i64 0] 68)).alloc (.cells #[.slice (some ⟨Z0.heap.size, 0, none⟩) 1 1] 69)) (B := Z0.heap.size + 1 + 1) (x := fiveX z) (c := itemZC (fiveX z) (.slice (some ⟨Z0.heap.size + 1, 0, none⟩) 1 1)) (by
              refine ⟨_, rfl, ?_⟩
              refine lk1 (K := testsL) b2 ⟨_, rfl, ?_⟩ (by omega)
              exact lk1 (K := testL) (x := fiveT z) b1 rfl (by omega)) (by omega) 66
            rw [hs2] at this
            exact this
          have cb0 := (HKB.out _ k3).cell (i := 0) rfl
          have hwZ : w.heap.size ≤ Z0.heap.size := (HIN.out _ k2).size
          have lv : Src itemL (((Z0.alloc (.cells #[.string ⟨#[97, 103, 101]⟩, .int .i64 1, .string ⟨#[]⟩, .int .i64 z, .int .i64 0] 68)).alloc (.cells #[.slice (some ⟨Z0.heap.size, 0, none⟩) 1 1] 69)).alloc (.cells #[.int .i64 2, .string ⟨#[97]⟩, .slice (some ⟨Z0.heap.size + 1, 0, none⟩) 1 1, .int .i64 0, .int .i64 0, .int .i64 0, .int .i64 0, .int .i64 0, .int .i64 0] 66)) (Z0.heap.size + 1 + 1) (.slice q m cp) l := (HR.out.below (HIN.out _ k3)).src (by omega)
          have hB0 : Z0.heap.size + 1 + 1 ≤ (((Z0.alloc (.cells #[.string ⟨#[97, 103, 101]⟩, .int .i64 1, .string ⟨#[]⟩, .int .i64 z, .int .i64 0] 68)).alloc (.cells #[.slice (some ⟨Z0.heap.size, 0, none⟩) 1 1] 69)).alloc (.cells #[.int .i64 2, .string ⟨#[97]⟩, .slice (some ⟨Z0.heap.size + 1, 0, none⟩) 1 1, .int .i64 0, .int .i64 0, .int .i64 0, .int .i64 0, .int .i64 0, .int .i64 0] 66)).heap.size := by rw [World.size_alloc, hs2]; omega
          have hl0 : [fiveX z].length + l.length ≤ 1000000 := by have := HT.out.1; simp; omega
          have E1 := Lib.hid e1; have L4 := Lib.hid l4; have K2 := Lib.hid k2
          clear e1 l4 b1 b2 hs2 k2 hwZ
          go_wp2_with (at_builtin; refine wpList_appends_lk (t := 27) Tryz.underlying27 hi0 hz0' hz1' hz2' rfl (by decide) (by decide) rfl _ _ rfl _ _ [fiveX z] l rfl rfl m0 lv hl0 hB0 ?_)
          intro v4 Z1 m5 g5 o5
          replace m5 : Made itemL Z1 (Z0.heap.size + 1 + 1) 66 v4 (fiveX z :: l) := m5
          have k4 : Below Z0.heap.size Z0 Z1 := Below.grew ((((Below.refl Z0.heap.size Z0).alloc (Nat.le_refl _) _).alloc (by rw [World.size_alloc]; omega) _).alloc (by rw [World.size_alloc, World.size_alloc]; omega) _) g5 (fun k hk => by cases hk; exact (by omega : Z0.heap.size ≤ Z0.heap.size + 1 + 1)) (by rw [World.size_alloc, World.size_alloc, World.size_alloc]; omega)
          obtain ⟨p4, cp4, rfl⟩ := m5.lk.slice
          obtain ⟨n4, hn4⟩ : ∃ n4, (fiveX z :: l).length = n4 := ⟨_, rfl⟩
          rw [hn4] at m5 ⊢
          have E2 := Lib.hid (blk_since E1.out k4); have L5 := Lib.hid (lk_since L4.out k4); have K3 := Lib.hid (K2.out.trans (k4.mono K2.out.size)); have M5 := Lib.hid m5.lk
          clear hB0 hl0 lv cb0 m0 k3 g5 o5 hn4 m5 k4 E1 L4 K2 hi0 hz0' hz1' hz2'
          go_upto_region 15 with fail
          have hba : Below Z1.heap.size Z1 (Z1.alloc (.cells #[.slice p4 n4 cp4] 29)) := (Below.refl _ _).alloc (Nat.le_refl _) _
          have f1 := Blk.new Z1 29 [.slice p4 n4 cp4]
          have E3 := Lib.hid (blk_since E2.out hba); have L6 := Lib.hid (lk_since L5.out hba); have L7 := Lib.hid (lk_since M5.out hba)
          have K4 := Lib.hid (K3.out.trans (hba.mono K3.out.size))
          obtain ⟨F, hF2⟩ : ∃ F, Z1.heap.size = F := ⟨_, rfl⟩
          rw [hF2] at f1 ⊢
          clear hF2 hba E2 L5 K3 M5
          generalize Z1.alloc (.cells #[.slice p4 n4 cp4] 29) = U0 at *
          have F1 := Lib.hid f1
          clear f1
          have y0 := E3.out.cell (i := 0) rfl
          go_wp2_with fail
          refine (printRules_any (fourX :: l) (four_fit HG.out) p3 n3 cp3 U0 (HE.out.since (HIN.out _ K4.out)) L6.out).mono ?_; rintro e U1 ⟨rfl, hb⟩
          rw [four_no l]
          have K5 := Lib.hid (K4.out.trans (hb.mono K4.out.size))
          have F2 := Lib.hid (blk_since F1.out hb); have L8 := Lib.hid (lk_since L7.out hb)
          clear y0 hb K4 E3 L6 F1 L7
          have y0 := F2.out.cell (i := 0) rfl
          go_wp2_with fail
          refine (printRules_any (fiveX z :: l) (five_fit HG.out HZ.out) p4 n4 cp4 U1 (HE.out.since (HIN.out _ K5.out)) L8.out).mono ?_; rintro e U2 ⟨rfl, hb⟩
          rw [five_no l HN.out]
          have K6 := Lib.hid (K5.out.trans (hb.mono K5.out.size))
          clear y0 hb K5 F2 L8
          go_wp2
          go_ret
          exact ⟨rfl, HIN.out _ K6.out⟩
theorem refuses_walk (h0 : HallZ) (p : Option Addr) (n cap : Nat) (l : List ItemZ) (q : Option Addr) (m cp : Nat) (z : Int) (w : World) (hm : Lk levelL w w.heap.size (.slice p n cap) h0.levels) (hw : HallZ.Wide h0) (hr : Lk itemL w w.heap.size (.slice q m cp) l) (hv : WideR l) (hz : (Lit.int .i64 z).wf = true) (hE : Env w) :
    Calls Tryz.prog 10 #[.agg #[.string ⟨h0.name.toArray⟩, .int .i64 h0.stage.x, .int .i64 h0.stage.y, .slice p n cap], .agg #[.slice q m cp], .int .i64 z] w fun e w' => e = .returned (.bool true) ∧ Below w.heap.size w w' :=
  refuses_core h0 p n cap l q m cp z (int_ok hz) w hm hw hr hv hE
end Go.Proofs.YtilfpnkcgjonhaaGreatDoor.Pr
namespace Go.Proofs.YtilfpnkcgjonhaaGreatDoor.refuses
open Go.ChangeShapes Go.WideShapes Go.ChangeAt Go.RowKit Go.Joins
open Go.ChangeMaps (open_string shut_string)
open Go.Proofs.YtilfpnkcgjonhaaGreatDoor.Pr

set_option maxRecDepth 100000 in
theorem contract (H : Type) (enc : TypeId × Value → H) (W : World) (base : Nat) (args : Array Value) (ds gs : List (DataW H)) (before : List MemPlace)
    (hval : ∀ (j : Nat) t v, Tryz.f10.params[j]? = some t → args[j]? = some v → Value.okWide Tryz.prog W .any base t v)
    (hW : DataW.Whole enc Tryz.prog Tryz.f10.params.toList Rows.printerRefusesSpec.vars false W args.toList ds gs before) (hL : laidMetH Tryz.prog Rows.printerRefusesRow.laid W) (hsh : W.ShapedOpen Tryz.prog) :
    Calls Tryz.prog 10 args W fun e W' => ∃ v, e = .returned v ∧ Rows.printerRefusesSpec.post enc Tryz.prog Tryz.f10 false true false false W args v W' := by
  have hE : Env W := env_of hL hsh
  have hW' := hW
  obtain ⟨p, q, hA0, hV, rfl, hfz, hnd⟩ := hW
  have hA : DataW.TrodAll enc Tryz.prog W 0 (fun _ => true) true Tryz.f10.params.toList args.toList ds p := hA0
  rw [Tryz.params10] at hA hval
  obtain ⟨v0, vs0, d0, ds0, p0, q0, hargs, rfl, rfl, h0, r0⟩ := trodAll_cons hA
  obtain ⟨v1, vs1, d1, ds1, p1, q1, rfl, rfl, rfl, h1, r1⟩ := trodAll_cons r0
  obtain ⟨v2, vs2, d2, ds2, p2, q2, rfl, rfl, rfl, h2, r2⟩ := trodAll_cons r1
  obtain ⟨rfl, rfl, rfl⟩ := trodAll_nil r2
  obtain rfl : args = #[v0, v1, v2] := Array.toList_inj.1 hargs
  obtain ⟨rfl, rfl⟩ := trodVars_none hV
  have k0 := h0
  have lt0 : ∀ x ∈ p0, x.block < W.heap.size := by obtain ⟨m, hm⟩ := k0; exact DataW.trod_lt m _ _ _ hm
  obtain ⟨a0, s0, n0, c0, rfl, l0, w0⟩ := hall_open (hval 0 26 v0 rfl rfl) h0
  have k1 := h1
  have lt1 : ∀ x ∈ p1, x.block < W.heap.size := by obtain ⟨m, hm⟩ := k1; exact DataW.trod_lt m _ _ _ hm
  obtain ⟨a1, s1, n1, c1, rfl, l1, w1⟩ := rules_open (hval 1 29 v1 rfl rfl) h1
  have k2 := h2
  have lt2 : ∀ x ∈ p2, x.block < W.heap.size := by obtain ⟨m, hm⟩ := k2; exact DataW.trod_lt m _ _ _ hm
  obtain ⟨a2, rfl, rfl, rfl, w2⟩ := open_int Tryz.underlying3 (hval 2 3 v2 rfl rfl) h2
  refine (refuses_walk a0 s0 n0 c0 a1 s1 n1 c1 a2 W l0 w0 l1 w1 w2 hE).mono fun e W' ⟨he, bel⟩ => ?_
  subst he
  exact ⟨_, rfl, _, _, _, [], _, [], hW', trodAll_mk1 (shut_bool Tryz.underlying4 _), (trodAll_cons_mk (Below.trod laidOut (by kernel_rfl) (of_decide_eq_true (by kernel_rfl)) k0 bel lt0) (trodAll_cons_mk (Below.trod laidOut (by kernel_rfl) (of_decide_eq_true (by kernel_rfl)) k1 bel lt1) (trodAll_cons_mk (Below.trod laidOut (by kernel_rfl) (of_decide_eq_true (by kernel_rfl)) k2 bel lt2) trodAll_mk0))), rfl, bel.frame _, fun h => by cases h⟩

/-- A start that fits: the door's own heap. -/
theorem laid_met (os : Os) : laidMet Tryz.prog Rows.printerRefusesRow.laid ((World.laidAll Tryz.prog os Rows.printerRefusesRow.laid).forCall (fun _ _ => 0) ⟨#[], #[.agg #[.string ByteArray.empty, .int .i64 0, .int .i64 0, .slice none 0 0], .agg #[.slice none 0 0], .int .i64 0], []⟩).memory :=
  laidMet_laidAll _ (by kernel_rfl) (by kernel_rfl)
theorem reads (os : Os) {H : Type} (enc : TypeId × Value → H) : ∃ places, DataW.whole enc Tryz.prog ((World.laidAll Tryz.prog os Rows.printerRefusesRow.laid).forCall (fun _ _ => 0) ⟨#[], #[.agg #[.string ByteArray.empty, .int .i64 0, .int .i64 0, .slice none 0 0], .agg #[.slice none 0 0], .int .i64 0], []⟩).memory Tryz.f10.params.toList Rows.printerRefusesSpec.vars false #[.agg #[.string ByteArray.empty, .int .i64 0, .int .i64 0, .slice none 0 0], .agg #[.slice none 0 0], .int .i64 0].toList 8 = some ([.agg [.lit (.string []), .agg [.lit (.int .i64 0), .lit (.int .i64 0)], .nil], .agg [.nil], .lit (.int .i64 0)], [], places) :=
  ⟨[], by kernel_rfl⟩

set_option maxRecDepth 100000 in
theorem lifted (os : Os) (started : os.Started) (H : Type) (enc : TypeId × Value → H) (F : Stop.Interp) :
    ReturnsInHanded {} Tryz.checked os 10 .any ((OpenSpec.ofChange Rows.printerRefusesSpec).preRow enc Tryz.prog Tryz.f10 Rows.printerRefusesRow.domain false Rows.printerRefusesRow.laid) (((OpenSpec.ofChange Rows.printerRefusesSpec).at F).post enc Tryz.prog Tryz.f10 false true false false) := by
  obtain ⟨places, hx⟩ := reads os enc
  refine returnsInHanded_of_row (C := Tryz.checked) (s := OpenSpec.ofChange Rows.printerRefusesSpec) own started (by kernel_rfl) Tryz.func10
    (witness_row_atRef (enc := enc) (C := Tryz.checked) false (World.laidAll Tryz.prog os Rows.printerRefusesRow.laid) #[.agg #[.string ByteArray.empty, .int .i64 0, .int .i64 0, .slice none 0 0], .agg #[.slice none 0 0], .int .i64 0] (World.laidAll_os _ _ _) (by kernel_rfl) (by kernel_rfl) (by kernel_rfl)
      (OpenSpec.preRow_of_cond 8 hx (by kernel_rfl) (fun k hk => by cases hk) (by kernel_rfl) (laid_met os))) ?_
  intro W base args ds gs before hval hW _ _ _ hL hsh _
  exact contract H enc W base args ds gs before hval hW hL hsh

theorem said : Rows.PrinterRefusesSaid :=
  OpenClaim.holds_of_cond 10 Tryz.f10 rfl rfl rfl rfl rfl rfl rfl ⟨rfl, rfl, rfl, rfl, rfl⟩ rfl rfl rfl rfl rfl (by kernel_rfl) Tryz.func10 (by kernel_rfl)
    (of_decide_eq_true (by kernel_rfl)) (by unfold Func.isWrapper; first | (rw [if_pos (by decide +kernel)]; kernel_rfl) | (rw [if_neg (by decide +kernel)]; exact ⟨rfl, rfl⟩))
    (fun os started H enc _ F => by rw [OpenClaim.pre_eq_preRow]; exact lifted os started H enc F)

theorem plain (f : FuncId) (fn : Func) (hf : Tryz.pinned.checked.prog.funcNamed Rows.printerRefusesRow.func = some f) (hfn : Tryz.pinned.checked.prog.funcs[f]? = some fn) :
    true = Tryz.pinned.checked.prog.looks [] ∧ ∀ (j : Nat) t, fn.params[j]? = some t → Tryz.pinned.checked.prog.wantsStandIn t = false := by
  obtain rfl : f = 10 := Option.some.inj ((show Tryz.prog.funcNamed Rows.printerRefusesRow.func = some 10 by kernel_rfl).symm.trans hf) |>.symm
  obtain rfl : fn = Tryz.f10 := (Option.some.inj (Tryz.func10.symm.trans hfn)).symm
  refine ⟨by kernel_rfl, fun j t ht => ?_⟩
  rw [Tryz.params10] at ht
  have hm := Array.mem_of_getElem? ht
  have hall : (Tryz.f10.params.toList.all fun u => !Tryz.prog.wantsStandIn u) = true := by kernel_rfl
  rw [Tryz.params10] at hall
  have := List.all_eq_true.1 hall t (by simpa using hm)
  exact (show Tryz.prog.wantsStandIn t = false by simpa using this)

/-- THE CARD. -/
theorem card : Rows.PrinterRefusesCardSaid :=
  Claim7.holds_tied_plain_at .later [] _ _ _ _ said (fun _ h => by cases h) (by kernel_rfl) (fun _ h => by cases h) printerRefuses_row_tie rfl ⟨rfl, rfl⟩ (by kernel_rfl) rfl plain (by kernel_rfl)
end Go.Proofs.YtilfpnkcgjonhaaGreatDoor.refuses
