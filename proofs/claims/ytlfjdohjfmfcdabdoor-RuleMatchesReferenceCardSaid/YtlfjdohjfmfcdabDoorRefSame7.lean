/-
  The document's own comparison of rules, of equal ones.
-/
import Derived.Test.YtlfjdohjfmfcdabDoorWalkParse
import Derived.Laws.StructEq
import Derived.Test.YtlfjdohjfmfcdabDoorEnv
namespace Go.Proofs.YtlfjdohjfmfcdabDoor
open Go.RowKit Go.Sort Go.Shelf Foyer.Rule Foyer.Round

theorem ratio_fields : Tryd.prog.underlying 36 = some (.struct (Tryd.prog.fieldsOf 36)) := by kernel_rfl
theorem ratio_held : Tryd.prog.stoodInHeld 36 = false := by kernel_rfl
theorem ratio_guardT : Tryd.prog.eqGuardType Tryd.prog.depth 36 = false := by kernel_rfl
theorem ratio_equal (a0 a1 b0 b1 : Int) (w : World) : (Op.equalIn 10000 36 (.agg #[.int .i64 a0, .int .i64 a1]) (.agg #[.int .i64 b0, .int .i64 b1])).run Tryd.prog w = .ok (decide (a0 = b0 ∧ a1 = b1)) w := by
  have u3 := Tryd.underlying3
  have a3' := Tryd.isAgg3
  have z3 := Tryd.sizeOf3
  rw [show (10000 : Nat) = 9999 + 1 from rfl, run_equalIn_agg w 9999 _ _ _ ratio_fields ratio_held]
  simp only [Program.fieldsOf, Tryd.underlying36]
  go_simp
  by_cases h0 : a0 = b0 <;> by_cases h1 : a1 = b1 <;> simp [h0, h1]
theorem ratio_neq (a0 a1 b0 b1 : Int) (y : Bool) (hy : (!decide (a0 = b0 ∧ a1 = b1)) = y) (w : World) : (binOp .neq 36 (.agg #[.int .i64 a0, .int .i64 a1]) (.agg #[.int .i64 b0, .int .i64 b1])).run Tryd.prog w = .ok (.bool y) w := by
  rw [run_neq_struct, ratio_equal, ← hy]; rfl
theorem ratio_eql (a0 a1 b0 b1 : Int) (y : Bool) (hy : decide (a0 = b0 ∧ a1 = b1) = y) (w : World) : (binOp .eql 36 (.agg #[.int .i64 a0, .int .i64 a1]) (.agg #[.int .i64 b0, .int .i64 b1])).run Tryd.prog w = .ok (.bool y) w := by
  rw [run_eql_struct, ratio_equal, ← hy]; rfl
theorem ratio_gneq (x y : Operand) (xs ys : Array Value) (w : World) : (eqGuard .neq 36 x y (.agg xs) (.agg ys)).run Tryd.prog w = .ok () w := run_eqGuard_agg w .neq _ x y xs ys ratio_guardT
theorem ratio_geql (x y : Operand) (xs ys : Array Value) (w : World) : (eqGuard .eql 36 x y (.agg xs) (.agg ys)).run Tryd.prog w = .ok () w := run_eqGuard_agg w .eql _ x y xs ys ratio_guardT
theorem below_boxes {w : World} (o1 o2 : Obj) : Below w.heap.size w ((w.alloc o1).alloc o2) := ((Below.refl _ _).alloc (Nat.le_refl _) _).alloc (by simp) _
theorem bound6 {α : Type} {K : Kind α} {W : World} {F : Nat → Prop} {T : TypeId} {v : Value} {xs : List α} (h : IsList K W F T v xs) : xs.length ≤ 9223372036854775807 := by
  obtain ⟨css, h1, h2, h3⟩ := h
  have hl := All2.length h3
  rcases h1.form with ⟨rfl, hn⟩ | ⟨g, cap, cur, rfl, hB, hg, hh, hcap, hm, hcell⟩
  · rw [hn] at hl; rw [← hl]; simp
  · unfold maxLen at hm; omega
theorem map_at {α β : Type} {f : α → β} {xs ys : List α} {k : Nat} {x : α} (h : xs.map f = ys.map f) (hx : xs[k]? = some x) : ∃ y, ys[k]? = some y ∧ f x = f y := by
  have h1 : (xs.map f)[k]? = some (f x) := by rw [List.getElem?_map, hx]; rfl
  rw [h, List.getElem?_map] at h1
  cases hy : ys[k]? with
  | none => rw [hy] at h1; simp at h1
  | some y => rw [hy] at h1; exact ⟨y, rfl, (by simpa using h1.symm)⟩
theorem Blk.below {X W : World} {b : Nat} {T : TypeId} {vs : List Value} (h : Blk X b T vs) (hB : Below X.heap.size X W) : Blk W b T vs :=
  h.kept (E := fun _ => False) (Kp.mk hB.os hB.tape hB.output hB.size (fun q hq _ => hB.block q hq)) (fun h => h)
theorem IsList.below {α : Type} {K : Kind α} {X W : World} {F : Nat → Prop} {T : TypeId} {v : Value} {xs : List α} (h : IsList K X F T v xs) (hB : Below X.heap.size X W) : IsList K W F T v xs := h.kept fun q _ hq => hB.block q hq
set_option maxRecDepth 100000 in
theorem sameTest_false (at_ : List UInt8) (op : Nat) (nm : List UInt8) (n p p' : Nat)  (w : World) :
    Calls Tryd.prog 14 #[.agg #[.string ⟨at_.toArray⟩, .int .i64 (op : Nat), .string ⟨nm.toArray⟩, .int .i64 (n : Nat), .int .i64 (p : Nat)], .agg #[.string ⟨at_.toArray⟩, .int .i64 (op : Nat), .string ⟨nm.toArray⟩, .int .i64 (n : Nat), .int .i64 (p' : Nat)], .bool false] w fun e w' => e = .returned (.bool true) ∧ Below w.heap.size w w' := by
  have e0 : (at_ == at_) = true := by simp
  have e1 : (nm == nm) = true := by simp
  have hb := Lib.hid (below_boxes (w := w) (.cells #[.string ⟨at_.toArray⟩, .int .i64 (op : Nat), .string ⟨nm.toArray⟩, .int .i64 (n : Nat), .int .i64 (p : Nat)] 32) (.cells #[.string ⟨at_.toArray⟩, .int .i64 (op : Nat), .string ⟨nm.toArray⟩, .int .i64 (n : Nat), .int .i64 (p' : Nat)] 32))
  go_enter Tryd.func14, Tryd.ntmps14
  go_wp2
  exact bodyPost_ret (results_tmp rfl _ _ _) rfl ⟨rfl, hb.out⟩
set_option maxRecDepth 100000 in
theorem sameTest_true (at_ : List UInt8) (op : Nat) (nm : List UInt8) (n p p' : Nat) (hp : p = p') (w : World) :
    Calls Tryd.prog 14 #[.agg #[.string ⟨at_.toArray⟩, .int .i64 (op : Nat), .string ⟨nm.toArray⟩, .int .i64 (n : Nat), .int .i64 (p : Nat)], .agg #[.string ⟨at_.toArray⟩, .int .i64 (op : Nat), .string ⟨nm.toArray⟩, .int .i64 (n : Nat), .int .i64 (p' : Nat)], .bool true] w fun e w' => e = .returned (.bool true) ∧ Below w.heap.size w w' := by
  have e0 : (at_ == at_) = true := by simp
  have e1 : (nm == nm) = true := by simp
  subst hp
  have e2 : (((p : Nat) : Int) == ((p : Nat) : Int)) = true := by simp
  have hb := Lib.hid (below_boxes (w := w) (.cells #[.string ⟨at_.toArray⟩, .int .i64 (op : Nat), .string ⟨nm.toArray⟩, .int .i64 (n : Nat), .int .i64 (p : Nat)] 32) (.cells #[.string ⟨at_.toArray⟩, .int .i64 (op : Nat), .string ⟨nm.toArray⟩, .int .i64 (n : Nat), .int .i64 (p : Nat)] 32))
  go_enter Tryd.func14, Tryd.ntmps14
  go_wp2
  exact bodyPost_ret (results_tmp rfl _ _ _) rfl ⟨rfl, hb.out⟩
theorem sameTestv_false (u u' : TestP) (h : u.at_ (fun _ => 0) = u'.at_ (fun _ => 0)) (w : World) :
    Calls Tryd.prog 14 #[.agg (testCl u).toArray, .agg (testCl u').toArray, .bool false] w fun e w' => e = .returned (.bool true) ∧ Below w.heap.size w w' := by
  cases u; cases u'
  simp only [TestP.at_, TestP.mk.injEq] at h
  obtain ⟨rfl, rfl, rfl, rfl, h⟩ := h
  exact sameTest_false _ _ _ _ _ _ w
set_option linter.unusedSimpArgs false in
set_option maxRecDepth 100000 in
set_option maxHeartbeats 8000000 in
theorem sameItem_false (kd : Nat) (nm : List UInt8) (hd : HeadP) (p p' : Nat) (cs cs' : List (List TestP)) (hr : cs.map (fun l => l.map (TestP.at_ (fun _ => 0))) = cs'.map (fun l => l.map (TestP.at_ (fun _ => 0)))) (v v' : Value) (F F' : Nat → Prop) (w : World) (h : IsList testsK w F 33 v cs) (h' : IsList testsK w F' 33 v' cs') :
    Calls Tryd.prog 8 #[.agg #[.int .i64 (kd : Nat), .string ⟨nm.toArray⟩, v, .int .i64 (hd.n : Nat), .int .i64 (hd.rn : Nat), .int .i64 (hd.rd : Nat), .int .i64 (hd.sn : Nat), .int .i64 (hd.sd : Nat), .int .i64 (p : Nat)], .agg #[.int .i64 (kd : Nat), .string ⟨nm.toArray⟩, v', .int .i64 (hd.n : Nat), .int .i64 (hd.rn : Nat), .int .i64 (hd.rd : Nat), .int .i64 (hd.sn : Nat), .int .i64 (hd.sd : Nat), .int .i64 (p' : Nat)], .bool false] w fun e w' => e = .returned (.bool true) ∧ Below w.heap.size w w' := by
  obtain ⟨a, c, rfl⟩ := h.len
  obtain ⟨a', c', rfl⟩ := h'.len
  have hl : cs'.length = cs.length := by simpa using (congrArg List.length hr).symm
  obtain ⟨n, hn⟩ : ∃ n, cs.length = n := ⟨_, rfl⟩
  have hn9 := bound6 h
  rw [hl, hn] at h'
  rw [hn] at h hn9
  rw [hl, hn]
  have e0 : (nm == nm) = true := by simp
  have e0' : (nm != nm) = false := by simp
  have q1 := ratio_neq (hd.rn : Nat) (hd.rd : Nat) (hd.rn : Nat) (hd.rd : Nat) false (by simp)
  have q2 := ratio_neq (hd.sn : Nat) (hd.sd : Nat) (hd.sn : Nat) (hd.sd : Nat) false (by simp)
  have q3 := ratio_gneq
  have hb := below_boxes (w := w) (.cells #[.int .i64 (kd : Nat), .string ⟨nm.toArray⟩, .slice a n c, .int .i64 (hd.n : Nat), .int .i64 (hd.rn : Nat), .int .i64 (hd.rd : Nat), .int .i64 (hd.sn : Nat), .int .i64 (hd.sd : Nat), .int .i64 (p : Nat)] 38) (.cells #[.int .i64 (kd : Nat), .string ⟨nm.toArray⟩, .slice a' n c', .int .i64 (hd.n : Nat), .int .i64 (hd.rn : Nat), .int .i64 (hd.rd : Nat), .int .i64 (hd.sn : Nat), .int .i64 (hd.sd : Nat), .int .i64 (p' : Nat)] 38)
  have X1 := Lib.hid ((Blk.new w 38 [.int .i64 (kd : Nat), .string ⟨nm.toArray⟩, .slice a n c, .int .i64 (hd.n : Nat), .int .i64 (hd.rn : Nat), .int .i64 (hd.rd : Nat), .int .i64 (hd.sn : Nat), .int .i64 (hd.sd : Nat), .int .i64 (p : Nat)]).alloc (.cells #[.int .i64 (kd : Nat), .string ⟨nm.toArray⟩, .slice a' n c', .int .i64 (hd.n : Nat), .int .i64 (hd.rn : Nat), .int .i64 (hd.rd : Nat), .int .i64 (hd.sn : Nat), .int .i64 (hd.sd : Nat), .int .i64 (p' : Nat)] 38))
  have x2 := Blk.new (w.alloc (.cells #[.int .i64 (kd : Nat), .string ⟨nm.toArray⟩, .slice a n c, .int .i64 (hd.n : Nat), .int .i64 (hd.rn : Nat), .int .i64 (hd.rd : Nat), .int .i64 (hd.sn : Nat), .int .i64 (hd.sd : Nat), .int .i64 (p : Nat)] 38)) 38 [.int .i64 (kd : Nat), .string ⟨nm.toArray⟩, .slice a' n c', .int .i64 (hd.n : Nat), .int .i64 (hd.rn : Nat), .int .i64 (hd.rd : Nat), .int .i64 (hd.sn : Nat), .int .i64 (hd.sd : Nat), .int .i64 (p' : Nat)]
  rw [World.size_alloc] at x2
  have X2 := Lib.hid x2
  have HL := Lib.hid (h.late hb)
  have HL' := Lib.hid (h'.late hb)
  have WB := Lib.hid hb
  clear hb x2
  go_enter Tryd.func8, Tryd.ntmps8
  go_upto_region 1 with fail
  generalize (w.alloc (.cells #[.int .i64 (kd : Nat), .string ⟨nm.toArray⟩, .slice a n c, .int .i64 (hd.n : Nat), .int .i64 (hd.rn : Nat), .int .i64 (hd.rd : Nat), .int .i64 (hd.sn : Nat), .int .i64 (hd.sd : Nat), .int .i64 (p : Nat)] 38)).alloc (.cells #[.int .i64 (kd : Nat), .string ⟨nm.toArray⟩, .slice a' n c', .int .i64 (hd.n : Nat), .int .i64 (hd.rn : Nat), .int .i64 (hd.rd : Nat), .int .i64 (hd.sn : Nat), .int .i64 (hd.sd : Nat), .int .i64 (p' : Nat)] 38) = W at *
  have y0 := X1.out.cell (i := 0) rfl
  have z0 := X2.out.cell (i := 0) rfl
  have y1 := X1.out.cell (i := 1) rfl
  have z1 := X2.out.cell (i := 1) rfl
  have y2 := X1.out.cell (i := 2) rfl
  have z2 := X2.out.cell (i := 2) rfl
  have y3 := X1.out.cell (i := 3) rfl
  have z3 := X2.out.cell (i := 3) rfl
  have y4 := X1.out.cell (i := 4) rfl
  have z4 := X2.out.cell (i := 4) rfl
  have y5 := X1.out.cell (i := 5) rfl
  have z5 := X2.out.cell (i := 5) rfl
  have y6 := X1.out.cell (i := 6) rfl
  have z6 := X2.out.cell (i := 6) rfl
  have y7 := X1.out.cell (i := 7) rfl
  have z7 := X2.out.cell (i := 7) rfl
  have y8 := X1.out.cell (i := 8) rfl
  have z8 := X2.out.cell (i := 8) rfl
  have HB0 := Lib.hid (Below.refl W.heap.size W)
  have HN := Lib.hid hn; have HR := Lib.hid hr; have HN2 := Lib.hid (hl.trans hn)
  clear hn h h' hr hl
  go_wp2
  go_loopw [7] (fun i wr => ∃ k : Nat, i = .int .i64 k ∧ k ≤ n ∧ Hid (Below W.heap.size W wr)) (fun i _ => n - (intOf i).toNat)
  case atStart => exact ⟨0, rfl, Nat.zero_le _, HB0⟩
  case round =>
    obtain ⟨k, rfl, hk, HB⟩ := hrel
    clear q1 q2 q3 y0 z0 y1 z1 y2 z2 y3 z3 y4 z4 y5 z5 y6 z6 y7 z7 y8 z8
    have xb := X1.out.below HB.out
    have zb := X2.out.below HB.out
    have y2 := xb.cell (i := 2) rfl
    have z2 := zb.cell (i := 2) rfl
    have hy2 := xb.lt
    have hz2 := zb.lt
    clear xb zb
    by_cases hk2 : k < n
    · obtain ⟨l, hx⟩ : ∃ l, cs[k]? = some l := ⟨_, List.getElem?_eq_getElem (by have := HN.out; omega)⟩
      obtain ⟨l', hx', hm⟩ := map_at HR.out hx
      obtain ⟨ga, ca, cc, hv, _, _, _, hga, ⟨vl, rfl, hl1⟩, hcell⟩ := (HL.out.below HB.out).at hx
      obtain ⟨gb, cb, cc', hv', _, _, _, hgb, ⟨vl', rfl, hl2⟩, hcell'⟩ := (HL'.out.below HB.out).at hx'
      rw [HN.out] at hv
      rw [HN2.out] at hv'
      injection hv with hv1 hv2 hv3
      injection hv' with hv1' hv2' hv3'
      subst hv1 hv3 hv1' hv3'
      have da := hcell 0 _ rfl
      have db := hcell' 0 _ rfl
      rw [show testsK.size = 1 from rfl, Nat.mul_one, Nat.add_zero] at da db
      have hki : (0 : Int) ≤ k ∧ (k : Int) < n := by omega
      obtain ⟨b1, u1, rfl⟩ := hl1.len
      obtain ⟨b2, u2, rfl⟩ := hl2.len
      have hll : l'.length = l.length := by simpa using (congrArg List.length hm).symm
      have hm9 := bound6 hl1
      obtain ⟨m, hmn⟩ : ∃ m, l.length = m := ⟨_, rfl⟩
      rw [hmn] at hl1 da hm9
      rw [hll, hmn] at hl2 db
      have HM := Lib.hid hm; have HL1 := Lib.hid hl1; have HL2 := Lib.hid hl2; have HMN := Lib.hid hmn; have HMN2 := Lib.hid (hll.trans hmn)
      have HX := Lib.hid hx
      clear hcell hcell' hx hx' hm hl1 hl2 hmn hll
      go_upto_region 6 with fail
      go_quiet (fail)
      have DA := Lib.hid da; have DB := Lib.hid db; have Y2 := Lib.hid y2; have Z2 := Lib.hid z2
      generalize wr = wo at *
      go_wp2
      go_loopw [8] (fun i wr => ∃ j : Nat, i = .int .i64 j ∧ j ≤ m ∧ Hid (Below wo.heap.size wo wr)) (fun i _ => m - (intOf i).toNat)
      case atStart => exact ⟨0, rfl, Nat.zero_le _, Lib.hid (below_drewN (Below.refl _ _) _)⟩
      case round =>
        obtain ⟨j, rfl, hj, HZ⟩ := hrel
        clear y2 z2 da db
        have y2 := (HZ.out.cell (p := ⟨w.heap.size, 2, none⟩) hy2).trans Y2.out
        have da := (HZ.out.cell (p := ⟨ga, k, none⟩) hga).trans DA.out
        by_cases hj2 : j < m
        · obtain ⟨u, hx⟩ : ∃ u, l[j]? = some u := ⟨_, List.getElem?_eq_getElem (by have := HMN.out; omega)⟩
          obtain ⟨u', hx', hm⟩ := map_at HM.out hx
          obtain ⟨gu, cu, cc, hv, _, _, _, hgu, rfl, hcell⟩ := (HL1.out.below HZ.out).at hx
          obtain ⟨gv, cv, cc', hv', _, _, _, hgv, rfl, hcell'⟩ := (HL2.out.below HZ.out).at hx'
          rw [HMN.out] at hv
          rw [HMN2.out] at hv'
          injection hv with hv1 hv2 hv3
          injection hv' with hv1' hv2' hv3'
          subst hv1 hv3 hv1' hv3'
          have z2 := (HZ.out.cell (p := ⟨w.heap.size + 1, 2, none⟩) hz2).trans Z2.out
          have db := (HZ.out.cell (p := ⟨gb, k, none⟩) hgb).trans DB.out
          have f0 := hcell 0 _ rfl
          have q0 := hcell' 0 _ rfl
          have f1 := hcell 1 _ rfl
          have q1 := hcell' 1 _ rfl
          have f2 := hcell 2 _ rfl
          have q2 := hcell' 2 _ rfl
          have f3 := hcell 3 _ rfl
          have q3 := hcell' 3 _ rfl
          have f4 := hcell 4 _ rfl
          have q4 := hcell' 4 _ rfl
          rw [show testK.size = 5 from rfl] at f0 f1 f2 f3 f4 q0 q1 q2 q3 q4
          rw [Nat.add_zero] at f0 q0
          have hji : (0 : Int) ≤ j ∧ (j : Int) < m := by omega
          have hsz := HZ.out.size
          have hy3 : w.heap.size < wr.heap.size := by omega
          have hz3 : w.heap.size + 1 < wr.heap.size := by omega
          have hga3 : ga < wr.heap.size := by omega
          have hgb3 : gb < wr.heap.size := by omega
          have HU := Lib.hid hm
          clear hcell hcell' hx hx' hm hsz
          go_upto_region 11 with fail
          refine wp_region_any (by kernel_rfl) ?_
          have hS0 : Below wr.heap.size wr wr.drew := (Below.refl _ _).drew
          refine any_of_held (S := fun W => Below wr.heap.size wr W) (N := []) _ _ _ _ ?_
          change held _ _ _ _ _ _ _ _ _ wr.drew
          obtain ⟨wa, hwa⟩ : ∃ wa, wr.drew = wa := ⟨_, rfl⟩
          rw [hwa] at hS0 ⊢
          clear hwa
          refine held_take [] (i := 0) (v := .pointer (some ⟨w.heap.size, 2, none⟩)) rfl (by kernel_rfl) (fun _ _ _ h => h) (Or.inl ⟨by rfl, fun w' hS => by go_simp⟩) hS0 ?_
          try simp only [Act.put, List.setIfInBounds_toArray, List.set_cons_zero, List.set_cons_succ]
          refine held_take [] (i := 1) (v := .slice (some ⟨ga, 0, none⟩) n c) rfl (by kernel_rfl) (fun _ _ _ h => h) (Or.inl ⟨by rfl, fun w' hS => by have := (hS.cell (p := ⟨w.heap.size, 2, none⟩) hy3).trans y2; go_simp⟩) hS0 ?_
          try simp only [Act.put, List.setIfInBounds_toArray, List.set_cons_zero, List.set_cons_succ]
          refine held_take [] (i := 2) (v := .int .i64 (k : Nat)) rfl (by kernel_rfl) (fun _ _ _ h => h) (Or.inl ⟨by rfl, fun w' hS => by go_simp⟩) hS0 ?_
          try simp only [Act.put, List.setIfInBounds_toArray, List.set_cons_zero, List.set_cons_succ]
          refine held_take [] (i := 3) (v := .pointer (some ⟨ga, k, none⟩)) rfl (by kernel_rfl) (fun _ _ _ h => h) (Or.inl ⟨by rfl, fun w' hS => by go_simp⟩) hS0 ?_
          try simp only [Act.put, List.setIfInBounds_toArray, List.set_cons_zero, List.set_cons_succ]
          refine held_take [] (i := 4) (v := .slice (some ⟨gu, 0, none⟩) m u1) rfl (by kernel_rfl) (fun _ _ _ h => h) (Or.inl ⟨by rfl, fun w' hS => by have := (hS.cell (p := ⟨ga, k, none⟩) hga3).trans da; go_simp⟩) hS0 ?_
          try simp only [Act.put, List.setIfInBounds_toArray, List.set_cons_zero, List.set_cons_succ]
          refine held_take [] (i := 5) (v := .int .i64 (j : Nat)) rfl (by kernel_rfl) (fun _ _ _ h => h) (Or.inl ⟨by rfl, fun w' hS => by go_simp⟩) hS0 ?_
          try simp only [Act.put, List.setIfInBounds_toArray, List.set_cons_zero, List.set_cons_succ]
          refine held_take [] (i := 6) (v := .pointer (some ⟨gu, j * 5, none⟩)) rfl (by kernel_rfl) (fun _ _ _ h => h) (Or.inl ⟨by rfl, fun w' hS => by go_simp⟩) hS0 ?_
          try simp only [Act.put, List.setIfInBounds_toArray, List.set_cons_zero, List.set_cons_succ]
          refine held_take [] (i := 7) (v := .agg #[.string ⟨u.attr.toArray⟩, .int .i64 (u.op : Nat), .string ⟨u.name.toArray⟩, .int .i64 (u.n : Nat), .int .i64 (u.pos : Nat)]) rfl (by kernel_rfl) (fun _ _ _ h => h) (Or.inl ⟨by rfl, fun w' hS => by have := (hS.cell (p := ⟨gu, j * 5, none⟩) hgu).trans f0; have := (hS.cell (p := ⟨gu, j * 5 + 1, none⟩) hgu).trans f1; have := (hS.cell (p := ⟨gu, j * 5 + 2, none⟩) hgu).trans f2; have := (hS.cell (p := ⟨gu, j * 5 + 3, none⟩) hgu).trans f3; have := (hS.cell (p := ⟨gu, j * 5 + 4, none⟩) hgu).trans f4; go_simp⟩) hS0 ?_
          try simp only [Act.put, List.setIfInBounds_toArray, List.set_cons_zero, List.set_cons_succ]
          refine held_take [] (i := 8) (v := .pointer (some ⟨(w.heap.size + 1), 2, none⟩)) rfl (by kernel_rfl) (fun _ _ _ h => h) (Or.inl ⟨by rfl, fun w' hS => by go_simp⟩) hS0 ?_
          try simp only [Act.put, List.setIfInBounds_toArray, List.set_cons_zero, List.set_cons_succ]
          refine held_take [] (i := 9) (v := .slice (some ⟨gb, 0, none⟩) n c') rfl (by kernel_rfl) (fun _ _ _ h => h) (Or.inl ⟨by rfl, fun w' hS => by have := (hS.cell (p := ⟨(w.heap.size + 1), 2, none⟩) hz3).trans z2; go_simp⟩) hS0 ?_
          try simp only [Act.put, List.setIfInBounds_toArray, List.set_cons_zero, List.set_cons_succ]
          refine held_take [] (i := 10) (v := .int .i64 (k : Nat)) rfl (by kernel_rfl) (fun _ _ _ h => h) (Or.inl ⟨by rfl, fun w' hS => by go_simp⟩) hS0 ?_
          try simp only [Act.put, List.setIfInBounds_toArray, List.set_cons_zero, List.set_cons_succ]
          refine held_take [] (i := 11) (v := .pointer (some ⟨gb, k, none⟩)) rfl (by kernel_rfl) (fun _ _ _ h => h) (Or.inl ⟨by rfl, fun w' hS => by go_simp⟩) hS0 ?_
          try simp only [Act.put, List.setIfInBounds_toArray, List.set_cons_zero, List.set_cons_succ]
          refine held_take [] (i := 12) (v := .slice (some ⟨gv, 0, none⟩) m u2) rfl (by kernel_rfl) (fun _ _ _ h => h) (Or.inl ⟨by rfl, fun w' hS => by have := (hS.cell (p := ⟨gb, k, none⟩) hgb3).trans db; go_simp⟩) hS0 ?_
          try simp only [Act.put, List.setIfInBounds_toArray, List.set_cons_zero, List.set_cons_succ]
          refine held_take [] (i := 13) (v := .int .i64 (j : Nat)) rfl (by kernel_rfl) (fun _ _ _ h => h) (Or.inl ⟨by rfl, fun w' hS => by go_simp⟩) hS0 ?_
          try simp only [Act.put, List.setIfInBounds_toArray, List.set_cons_zero, List.set_cons_succ]
          refine held_take [] (i := 14) (v := .pointer (some ⟨gv, j * 5, none⟩)) rfl (by kernel_rfl) (fun _ _ _ h => h) (Or.inl ⟨by rfl, fun w' hS => by go_simp⟩) hS0 ?_
          try simp only [Act.put, List.setIfInBounds_toArray, List.set_cons_zero, List.set_cons_succ]
          refine held_take [] (i := 15) (v := .agg #[.string ⟨u'.attr.toArray⟩, .int .i64 (u'.op : Nat), .string ⟨u'.name.toArray⟩, .int .i64 (u'.n : Nat), .int .i64 (u'.pos : Nat)]) rfl (by kernel_rfl) (fun _ _ _ h => h) (Or.inl ⟨by rfl, fun w' hS => by have := (hS.cell (p := ⟨gv, j * 5, none⟩) hgv).trans q0; have := (hS.cell (p := ⟨gv, j * 5 + 1, none⟩) hgv).trans q1; have := (hS.cell (p := ⟨gv, j * 5 + 2, none⟩) hgv).trans q2; have := (hS.cell (p := ⟨gv, j * 5 + 3, none⟩) hgv).trans q3; have := (hS.cell (p := ⟨gv, j * 5 + 4, none⟩) hgv).trans q4; go_simp⟩) hS0 ?_
          try simp only [Act.put, List.setIfInBounds_toArray, List.set_cons_zero, List.set_cons_succ]
          refine held_take [] (i := 16) (v := .bool false) rfl (by kernel_rfl) (fun _ _ _ h => h) (Or.inl ⟨by rfl, fun w' hS => by go_simp⟩) hS0 ?_
          try simp only [Act.put, List.setIfInBounds_toArray, List.set_cons_zero, List.set_cons_succ]
          refine held_one (i := 17) rfl (by kernel_rfl) (fun K hK => ?_)
          go_simp
          refine (sameTestv_false u u' HU.out wa).mono ?_
          rintro e W1 ⟨rfl, hw1⟩
          have hS1 : Below wr.heap.size wr W1 := hS0.trans (hw1.mono hS0.size)
          clear hS0 hw1
          refine hK.out _ _ (fun _ => hS1) ?_
          clear hK K
          try simp only [Act.put, List.setIfInBounds_toArray, List.set_cons_zero, List.set_cons_succ]
          refine held_take [] (i := 18) (v := .bool false) rfl (by kernel_rfl) (fun _ _ _ h => h) (Or.inl ⟨by rfl, fun w' hS => by go_simp⟩) hS1 ?_
          try simp only [Act.put, List.setIfInBounds_toArray, List.set_cons_zero, List.set_cons_succ]
          refine held_done (by kernel_rfl) ?_ _
          have HB1 := Lib.hid (HZ.out.trans (hS1.mono HZ.out.size))
          clear hS1
          go_wp2
          refine ⟨⟨j + 1, by go_num, by omega, HB1⟩, ?_⟩
          simp [intOf]; omega
        · obtain rfl : j = m := by omega
          have HB1 := Lib.hid (HB.out.trans (HZ.out.mono HB.out.size))
          go_wp2
          refine ⟨⟨k + 1, by go_num, by omega, HB1⟩, ?_⟩
          simp [intOf]; omega
    · obtain rfl : k = n := by omega
      go_wp2
      go_ret
      exact ⟨rfl, WB.out.trans (HB.out.mono WB.out.size)⟩
theorem sameItemv_false (x y : ItemP) (hxy : x.at_ (fun _ => 0) = y.at_ (fun _ => 0)) (v v' : Value) (F F' : Nat → Prop) (w : World) (h : IsList testsK w F 33 v x.conds) (h' : IsList testsK w F' 33 v' y.conds) :
    Calls Tryd.prog 8 #[.agg (itemCl x.kind x.name v x.head x.pos).toArray, .agg (itemCl y.kind y.name v' y.head y.pos).toArray, .bool false] w fun e w' => e = .returned (.bool true) ∧ Below w.heap.size w w' := by
  cases x; cases y
  simp only [ItemP.at_, ItemP.mk.injEq] at hxy
  obtain ⟨rfl, rfl, hr, rfl, h5⟩ := hxy
  exact sameItem_false _ _ _ _ _ _ _ hr v v' F F' w h h'
set_option linter.unusedSimpArgs false in
set_option maxRecDepth 100000 in
set_option maxHeartbeats 8000000 in
theorem same_false (xs ys : List ItemP) (hr : xs.map (ItemP.at_ (fun _ => 0)) = ys.map (ItemP.at_ (fun _ => 0))) (v v' : Value) (F F' : Nat → Prop) (w : World) (h : IsList itemK w F 38 v xs) (h' : IsList itemK w F' 38 v' ys) :
    Calls Tryd.prog 7 #[.agg #[v], .agg #[v'], .bool false] w fun e w' => e = .returned (.bool true) ∧ Below w.heap.size w w' := by
  obtain ⟨a, c, rfl⟩ := h.len
  obtain ⟨a', c', rfl⟩ := h'.len
  have hl : ys.length = xs.length := by simpa using (congrArg List.length hr).symm
  obtain ⟨n, hn⟩ : ∃ n, xs.length = n := ⟨_, rfl⟩
  have hn9 := bound6 h
  rw [hl, hn] at h'
  rw [hn] at h hn9
  rw [hl, hn]
  have hb := below_boxes (w := w) (.cells #[.slice a n c] 25) (.cells #[.slice a' n c'] 25)
  have X1 := Lib.hid ((Blk.new w 25 [.slice a n c]).alloc (.cells #[.slice a' n c'] 25))
  have x2 := Blk.new (w.alloc (.cells #[.slice a n c] 25)) 25 [.slice a' n c']
  rw [World.size_alloc] at x2
  have X2 := Lib.hid x2
  have HL := Lib.hid (h.late hb)
  have HL' := Lib.hid (h'.late hb)
  have WB := Lib.hid hb
  clear hb x2
  go_enter Tryd.func7, Tryd.ntmps7
  go_upto_region 1 with fail
  generalize (w.alloc (.cells #[.slice a n c] 25)).alloc (.cells #[.slice a' n c'] 25) = W at *
  have y0 := X1.out.cell (i := 0) rfl
  have z0 := X2.out.cell (i := 0) rfl
  have HB0 := Lib.hid (Below.refl W.heap.size W)
  have HN := Lib.hid hn; have HR := Lib.hid hr; have HN2 := Lib.hid (hl.trans hn)
  clear hn h h' hr hl
  go_wp2
  go_loopw [7] (fun i wr => ∃ k : Nat, i = .int .i64 k ∧ k ≤ n ∧ Hid (Below W.heap.size W wr)) (fun i _ => n - (intOf i).toNat)
  case atStart => exact ⟨0, rfl, Nat.zero_le _, HB0⟩
  case round =>
    obtain ⟨k, rfl, hk, HB⟩ := hrel
    clear y0 z0
    have xb := X1.out.below HB.out
    have zb := X2.out.below HB.out
    have y0 := xb.cell (i := 0) rfl
    have z0 := zb.cell (i := 0) rfl
    have hy0 := xb.lt
    have hz0 := zb.lt
    clear xb zb
    by_cases hk2 : k < n
    · obtain ⟨m, hx⟩ : ∃ m, xs[k]? = some m := ⟨_, List.getElem?_eq_getElem (by have := HN.out; omega)⟩
      obtain ⟨m', hx', hm⟩ := map_at HR.out hx
      obtain ⟨g, cap, cs, hv, _, _, _, hg, ⟨vm, rfl, hm1⟩, hcell⟩ := (HL.out.below HB.out).at hx
      obtain ⟨g', cap', cs', hv', _, _, _, hg', ⟨vm', rfl, hm2⟩, hcell'⟩ := (HL'.out.below HB.out).at hx'
      rw [HN.out] at hv
      rw [HN2.out] at hv'
      injection hv with hv1 hv2 hv3
      injection hv' with hv1' hv2' hv3'
      subst hv1 hv3 hv1' hv3'
      obtain ⟨va, vn, vc, rfl⟩ := hm1.slice
      obtain ⟨va', vn', vc', rfl⟩ := hm2.slice
      have d0 := hcell 0 _ rfl
      have q0 := hcell' 0 _ rfl
      have d1 := hcell 1 _ rfl
      have q1 := hcell' 1 _ rfl
      have d2 := hcell 2 _ rfl
      have q2 := hcell' 2 _ rfl
      have d3 := hcell 3 _ rfl
      have q3 := hcell' 3 _ rfl
      have d4 := hcell 4 _ rfl
      have q4 := hcell' 4 _ rfl
      have d5 := hcell 5 _ rfl
      have q5 := hcell' 5 _ rfl
      have d6 := hcell 6 _ rfl
      have q6 := hcell' 6 _ rfl
      have d7 := hcell 7 _ rfl
      have q7 := hcell' 7 _ rfl
      have d8 := hcell 8 _ rfl
      have q8 := hcell' 8 _ rfl
      rw [show itemK.size = 9 from rfl] at d0 q0 d1 q1 d2 q2 d3 q3 d4 q4 d5 q5 d6 q6 d7 q7 d8 q8
      rw [Nat.add_zero] at d0 q0
      have hki : (0 : Int) ≤ k ∧ (k : Int) < n := by omega
      clear hcell hcell' hx hx'
      have HM := Lib.hid hm; have HM1 := Lib.hid hm1; have HM2 := Lib.hid hm2
      clear hm hm1 hm2
      go_upto_region 6 with fail
      refine wp_region_any (by kernel_rfl) ?_
      have hS0 : Below wr.heap.size wr wr.drew := (Below.refl _ _).drew
      refine any_of_held (S := fun W => Below wr.heap.size wr W) (N := []) _ _ _ _ ?_
      change held _ _ _ _ _ _ _ _ _ wr.drew
      obtain ⟨wa, hwa⟩ : ∃ wa, wr.drew = wa := ⟨_, rfl⟩
      rw [hwa] at hS0 ⊢
      clear hwa
      refine held_take [] (i := 0) (v := .pointer (some ⟨w.heap.size, 0, none⟩)) rfl (by kernel_rfl) (fun _ _ _ h => h) (Or.inl ⟨by rfl, fun w' hS => by go_simp⟩) hS0 ?_
      try simp only [Act.put, List.setIfInBounds_toArray, List.set_cons_zero, List.set_cons_succ]
      refine held_take [] (i := 1) (v := .slice (some ⟨g, 0, none⟩) n c) rfl (by kernel_rfl) (fun _ _ _ h => h) (Or.inl ⟨by rfl, fun w' hS => by have := (hS.cell (p := ⟨w.heap.size, 0, none⟩) hy0).trans y0; go_simp⟩) hS0 ?_
      try simp only [Act.put, List.setIfInBounds_toArray, List.set_cons_zero, List.set_cons_succ]
      refine held_take [] (i := 2) (v := .int .i64 (k : Nat)) rfl (by kernel_rfl) (fun _ _ _ h => h) (Or.inl ⟨by rfl, fun w' hS => by go_simp⟩) hS0 ?_
      try simp only [Act.put, List.setIfInBounds_toArray, List.set_cons_zero, List.set_cons_succ]
      refine held_take [] (i := 3) (v := .pointer (some ⟨g, k * 9, none⟩)) rfl (by kernel_rfl) (fun _ _ _ h => h) (Or.inl ⟨by rfl, fun w' hS => by go_simp⟩) hS0 ?_
      try simp only [Act.put, List.setIfInBounds_toArray, List.set_cons_zero, List.set_cons_succ]
      refine held_take [] (i := 4) (v := .agg #[.int .i64 (m.kind : Nat), .string ⟨m.name.toArray⟩, (.slice va vn vc), .int .i64 (m.head.n : Nat), .int .i64 (m.head.rn : Nat), .int .i64 (m.head.rd : Nat), .int .i64 (m.head.sn : Nat), .int .i64 (m.head.sd : Nat), .int .i64 (m.pos : Nat)]) rfl (by kernel_rfl) (fun _ _ _ h => h) (Or.inl ⟨by rfl, fun w' hS => by have := (hS.cell (p := ⟨g, k * 9, none⟩) hg).trans d0; have := (hS.cell (p := ⟨g, k * 9 + 1, none⟩) hg).trans d1; have := (hS.cell (p := ⟨g, k * 9 + 2, none⟩) hg).trans d2; have := (hS.cell (p := ⟨g, k * 9 + 3, none⟩) hg).trans d3; have := (hS.cell (p := ⟨g, k * 9 + 4, none⟩) hg).trans d4; have := (hS.cell (p := ⟨g, k * 9 + 5, none⟩) hg).trans d5; have := (hS.cell (p := ⟨g, k * 9 + 6, none⟩) hg).trans d6; have := (hS.cell (p := ⟨g, k * 9 + 7, none⟩) hg).trans d7; have := (hS.cell (p := ⟨g, k * 9 + 8, none⟩) hg).trans d8; go_simp⟩) hS0 ?_
      try simp only [Act.put, List.setIfInBounds_toArray, List.set_cons_zero, List.set_cons_succ]
      refine held_take [] (i := 5) (v := .pointer (some ⟨(w.heap.size + 1), 0, none⟩)) rfl (by kernel_rfl) (fun _ _ _ h => h) (Or.inl ⟨by rfl, fun w' hS => by go_simp⟩) hS0 ?_
      try simp only [Act.put, List.setIfInBounds_toArray, List.set_cons_zero, List.set_cons_succ]
      refine held_take [] (i := 6) (v := .slice (some ⟨g', 0, none⟩) n c') rfl (by kernel_rfl) (fun _ _ _ h => h) (Or.inl ⟨by rfl, fun w' hS => by have := (hS.cell (p := ⟨(w.heap.size + 1), 0, none⟩) hz0).trans z0; go_simp⟩) hS0 ?_
      try simp only [Act.put, List.setIfInBounds_toArray, List.set_cons_zero, List.set_cons_succ]
      refine held_take [] (i := 7) (v := .int .i64 (k : Nat)) rfl (by kernel_rfl) (fun _ _ _ h => h) (Or.inl ⟨by rfl, fun w' hS => by go_simp⟩) hS0 ?_
      try simp only [Act.put, List.setIfInBounds_toArray, List.set_cons_zero, List.set_cons_succ]
      refine held_take [] (i := 8) (v := .pointer (some ⟨g', k * 9, none⟩)) rfl (by kernel_rfl) (fun _ _ _ h => h) (Or.inl ⟨by rfl, fun w' hS => by go_simp⟩) hS0 ?_
      try simp only [Act.put, List.setIfInBounds_toArray, List.set_cons_zero, List.set_cons_succ]
      refine held_take [] (i := 9) (v := .agg #[.int .i64 (m'.kind : Nat), .string ⟨m'.name.toArray⟩, (.slice va' vn' vc'), .int .i64 (m'.head.n : Nat), .int .i64 (m'.head.rn : Nat), .int .i64 (m'.head.rd : Nat), .int .i64 (m'.head.sn : Nat), .int .i64 (m'.head.sd : Nat), .int .i64 (m'.pos : Nat)]) rfl (by kernel_rfl) (fun _ _ _ h => h) (Or.inl ⟨by rfl, fun w' hS => by have := (hS.cell (p := ⟨g', k * 9, none⟩) hg').trans q0; have := (hS.cell (p := ⟨g', k * 9 + 1, none⟩) hg').trans q1; have := (hS.cell (p := ⟨g', k * 9 + 2, none⟩) hg').trans q2; have := (hS.cell (p := ⟨g', k * 9 + 3, none⟩) hg').trans q3; have := (hS.cell (p := ⟨g', k * 9 + 4, none⟩) hg').trans q4; have := (hS.cell (p := ⟨g', k * 9 + 5, none⟩) hg').trans q5; have := (hS.cell (p := ⟨g', k * 9 + 6, none⟩) hg').trans q6; have := (hS.cell (p := ⟨g', k * 9 + 7, none⟩) hg').trans q7; have := (hS.cell (p := ⟨g', k * 9 + 8, none⟩) hg').trans q8; go_simp⟩) hS0 ?_
      try simp only [Act.put, List.setIfInBounds_toArray, List.set_cons_zero, List.set_cons_succ]
      refine held_take [] (i := 10) (v := .bool false) rfl (by kernel_rfl) (fun _ _ _ h => h) (Or.inl ⟨by rfl, fun w' hS => by go_simp⟩) hS0 ?_
      try simp only [Act.put, List.setIfInBounds_toArray, List.set_cons_zero, List.set_cons_succ]
      refine held_one (i := 11) rfl (by kernel_rfl) (fun K hK => ?_)
      go_simp
      refine (sameItemv_false m m' HM.out _ _ _ _ wa (HM1.out.below hS0) (HM2.out.below hS0)).mono ?_
      rintro e W1 ⟨rfl, hw1⟩
      have hS1 : Below wr.heap.size wr W1 := hS0.trans (hw1.mono hS0.size)
      clear hS0 hw1
      refine hK.out _ _ (fun _ => hS1) ?_
      clear hK K
      try simp only [Act.put, List.setIfInBounds_toArray, List.set_cons_zero, List.set_cons_succ]
      refine held_take [] (i := 12) (v := .bool false) rfl (by kernel_rfl) (fun _ _ _ h => h) (Or.inl ⟨by rfl, fun w' hS => by go_simp⟩) hS1 ?_
      try simp only [Act.put, List.setIfInBounds_toArray, List.set_cons_zero, List.set_cons_succ]
      refine held_done (by kernel_rfl) ?_ _
      have HB1 := Lib.hid (HB.out.trans (hS1.mono HB.out.size))
      clear hS1
      go_wp2
      refine ⟨⟨k + 1, by go_num, by omega, HB1⟩, ?_⟩
      simp [intOf]; omega
    · obtain rfl : k = n := by omega
      go_wp2
      go_ret
      exact ⟨rfl, WB.out.trans (HB.out.mono WB.out.size)⟩
theorem sameTestv_true (u u' : TestP) (h : u.at_ (fun p => p) = u'.at_ (fun p => p)) (w : World) :
    Calls Tryd.prog 14 #[.agg (testCl u).toArray, .agg (testCl u').toArray, .bool true] w fun e w' => e = .returned (.bool true) ∧ Below w.heap.size w w' := by
  cases u; cases u'
  simp only [TestP.at_, TestP.mk.injEq] at h
  obtain ⟨rfl, rfl, rfl, rfl, h⟩ := h
  exact sameTest_true _ _ _ _ _ _ h w
set_option linter.unusedSimpArgs false in
set_option maxRecDepth 100000 in
set_option maxHeartbeats 8000000 in
theorem sameItem_true (kd : Nat) (nm : List UInt8) (hd : HeadP) (p p' : Nat) (hp : p = p') (cs cs' : List (List TestP)) (hr : cs.map (fun l => l.map (TestP.at_ (fun p => p))) = cs'.map (fun l => l.map (TestP.at_ (fun p => p)))) (v v' : Value) (F F' : Nat → Prop) (w : World) (h : IsList testsK w F 33 v cs) (h' : IsList testsK w F' 33 v' cs') :
    Calls Tryd.prog 8 #[.agg #[.int .i64 (kd : Nat), .string ⟨nm.toArray⟩, v, .int .i64 (hd.n : Nat), .int .i64 (hd.rn : Nat), .int .i64 (hd.rd : Nat), .int .i64 (hd.sn : Nat), .int .i64 (hd.sd : Nat), .int .i64 (p : Nat)], .agg #[.int .i64 (kd : Nat), .string ⟨nm.toArray⟩, v', .int .i64 (hd.n : Nat), .int .i64 (hd.rn : Nat), .int .i64 (hd.rd : Nat), .int .i64 (hd.sn : Nat), .int .i64 (hd.sd : Nat), .int .i64 (p' : Nat)], .bool true] w fun e w' => e = .returned (.bool true) ∧ Below w.heap.size w w' := by
  obtain ⟨a, c, rfl⟩ := h.len
  obtain ⟨a', c', rfl⟩ := h'.len
  have hl : cs'.length = cs.length := by simpa using (congrArg List.length hr).symm
  obtain ⟨n, hn⟩ : ∃ n, cs.length = n := ⟨_, rfl⟩
  have hn9 := bound6 h
  rw [hl, hn] at h'
  rw [hn] at h hn9
  rw [hl, hn]
  have e0 : (nm == nm) = true := by simp
  have e0' : (nm != nm) = false := by simp
  subst hp
  have e3 : (((p : Nat) : Int) == ((p : Nat) : Int)) = true := by simp
  have q1 := ratio_neq (hd.rn : Nat) (hd.rd : Nat) (hd.rn : Nat) (hd.rd : Nat) false (by simp)
  have q2 := ratio_neq (hd.sn : Nat) (hd.sd : Nat) (hd.sn : Nat) (hd.sd : Nat) false (by simp)
  have q3 := ratio_gneq
  have hb := below_boxes (w := w) (.cells #[.int .i64 (kd : Nat), .string ⟨nm.toArray⟩, .slice a n c, .int .i64 (hd.n : Nat), .int .i64 (hd.rn : Nat), .int .i64 (hd.rd : Nat), .int .i64 (hd.sn : Nat), .int .i64 (hd.sd : Nat), .int .i64 (p : Nat)] 38) (.cells #[.int .i64 (kd : Nat), .string ⟨nm.toArray⟩, .slice a' n c', .int .i64 (hd.n : Nat), .int .i64 (hd.rn : Nat), .int .i64 (hd.rd : Nat), .int .i64 (hd.sn : Nat), .int .i64 (hd.sd : Nat), .int .i64 (p : Nat)] 38)
  have X1 := Lib.hid ((Blk.new w 38 [.int .i64 (kd : Nat), .string ⟨nm.toArray⟩, .slice a n c, .int .i64 (hd.n : Nat), .int .i64 (hd.rn : Nat), .int .i64 (hd.rd : Nat), .int .i64 (hd.sn : Nat), .int .i64 (hd.sd : Nat), .int .i64 (p : Nat)]).alloc (.cells #[.int .i64 (kd : Nat), .string ⟨nm.toArray⟩, .slice a' n c', .int .i64 (hd.n : Nat), .int .i64 (hd.rn : Nat), .int .i64 (hd.rd : Nat), .int .i64 (hd.sn : Nat), .int .i64 (hd.sd : Nat), .int .i64 (p : Nat)] 38))
  have x2 := Blk.new (w.alloc (.cells #[.int .i64 (kd : Nat), .string ⟨nm.toArray⟩, .slice a n c, .int .i64 (hd.n : Nat), .int .i64 (hd.rn : Nat), .int .i64 (hd.rd : Nat), .int .i64 (hd.sn : Nat), .int .i64 (hd.sd : Nat), .int .i64 (p : Nat)] 38)) 38 [.int .i64 (kd : Nat), .string ⟨nm.toArray⟩, .slice a' n c', .int .i64 (hd.n : Nat), .int .i64 (hd.rn : Nat), .int .i64 (hd.rd : Nat), .int .i64 (hd.sn : Nat), .int .i64 (hd.sd : Nat), .int .i64 (p : Nat)]
  rw [World.size_alloc] at x2
  have X2 := Lib.hid x2
  have HL := Lib.hid (h.late hb)
  have HL' := Lib.hid (h'.late hb)
  have WB := Lib.hid hb
  clear hb x2
  go_enter Tryd.func8, Tryd.ntmps8
  go_upto_region 1 with fail
  generalize (w.alloc (.cells #[.int .i64 (kd : Nat), .string ⟨nm.toArray⟩, .slice a n c, .int .i64 (hd.n : Nat), .int .i64 (hd.rn : Nat), .int .i64 (hd.rd : Nat), .int .i64 (hd.sn : Nat), .int .i64 (hd.sd : Nat), .int .i64 (p : Nat)] 38)).alloc (.cells #[.int .i64 (kd : Nat), .string ⟨nm.toArray⟩, .slice a' n c', .int .i64 (hd.n : Nat), .int .i64 (hd.rn : Nat), .int .i64 (hd.rd : Nat), .int .i64 (hd.sn : Nat), .int .i64 (hd.sd : Nat), .int .i64 (p : Nat)] 38) = W at *
  have y0 := X1.out.cell (i := 0) rfl
  have z0 := X2.out.cell (i := 0) rfl
  have y1 := X1.out.cell (i := 1) rfl
  have z1 := X2.out.cell (i := 1) rfl
  have y2 := X1.out.cell (i := 2) rfl
  have z2 := X2.out.cell (i := 2) rfl
  have y3 := X1.out.cell (i := 3) rfl
  have z3 := X2.out.cell (i := 3) rfl
  have y4 := X1.out.cell (i := 4) rfl
  have z4 := X2.out.cell (i := 4) rfl
  have y5 := X1.out.cell (i := 5) rfl
  have z5 := X2.out.cell (i := 5) rfl
  have y6 := X1.out.cell (i := 6) rfl
  have z6 := X2.out.cell (i := 6) rfl
  have y7 := X1.out.cell (i := 7) rfl
  have z7 := X2.out.cell (i := 7) rfl
  have y8 := X1.out.cell (i := 8) rfl
  have z8 := X2.out.cell (i := 8) rfl
  have HB0 := Lib.hid (Below.refl W.heap.size W)
  have HN := Lib.hid hn; have HR := Lib.hid hr; have HN2 := Lib.hid (hl.trans hn)
  clear hn h h' hr hl
  go_wp2
  go_loopw [7] (fun i wr => ∃ k : Nat, i = .int .i64 k ∧ k ≤ n ∧ Hid (Below W.heap.size W wr)) (fun i _ => n - (intOf i).toNat)
  case atStart => exact ⟨0, rfl, Nat.zero_le _, HB0⟩
  case round =>
    obtain ⟨k, rfl, hk, HB⟩ := hrel
    clear q1 q2 q3 y0 z0 y1 z1 y2 z2 y3 z3 y4 z4 y5 z5 y6 z6 y7 z7 y8 z8
    have xb := X1.out.below HB.out
    have zb := X2.out.below HB.out
    have y2 := xb.cell (i := 2) rfl
    have z2 := zb.cell (i := 2) rfl
    have hy2 := xb.lt
    have hz2 := zb.lt
    clear xb zb
    by_cases hk2 : k < n
    · obtain ⟨l, hx⟩ : ∃ l, cs[k]? = some l := ⟨_, List.getElem?_eq_getElem (by have := HN.out; omega)⟩
      obtain ⟨l', hx', hm⟩ := map_at HR.out hx
      obtain ⟨ga, ca, cc, hv, _, _, _, hga, ⟨vl, rfl, hl1⟩, hcell⟩ := (HL.out.below HB.out).at hx
      obtain ⟨gb, cb, cc', hv', _, _, _, hgb, ⟨vl', rfl, hl2⟩, hcell'⟩ := (HL'.out.below HB.out).at hx'
      rw [HN.out] at hv
      rw [HN2.out] at hv'
      injection hv with hv1 hv2 hv3
      injection hv' with hv1' hv2' hv3'
      subst hv1 hv3 hv1' hv3'
      have da := hcell 0 _ rfl
      have db := hcell' 0 _ rfl
      rw [show testsK.size = 1 from rfl, Nat.mul_one, Nat.add_zero] at da db
      have hki : (0 : Int) ≤ k ∧ (k : Int) < n := by omega
      obtain ⟨b1, u1, rfl⟩ := hl1.len
      obtain ⟨b2, u2, rfl⟩ := hl2.len
      have hll : l'.length = l.length := by simpa using (congrArg List.length hm).symm
      have hm9 := bound6 hl1
      obtain ⟨m, hmn⟩ : ∃ m, l.length = m := ⟨_, rfl⟩
      rw [hmn] at hl1 da hm9
      rw [hll, hmn] at hl2 db
      have HM := Lib.hid hm; have HL1 := Lib.hid hl1; have HL2 := Lib.hid hl2; have HMN := Lib.hid hmn; have HMN2 := Lib.hid (hll.trans hmn)
      have HX := Lib.hid hx
      clear hcell hcell' hx hx' hm hl1 hl2 hmn hll
      go_upto_region 6 with fail
      go_quiet (fail)
      have DA := Lib.hid da; have DB := Lib.hid db; have Y2 := Lib.hid y2; have Z2 := Lib.hid z2
      generalize wr = wo at *
      go_wp2
      go_loopw [8] (fun i wr => ∃ j : Nat, i = .int .i64 j ∧ j ≤ m ∧ Hid (Below wo.heap.size wo wr)) (fun i _ => m - (intOf i).toNat)
      case atStart => exact ⟨0, rfl, Nat.zero_le _, Lib.hid (below_drewN (Below.refl _ _) _)⟩
      case round =>
        obtain ⟨j, rfl, hj, HZ⟩ := hrel
        clear y2 z2 da db
        have y2 := (HZ.out.cell (p := ⟨w.heap.size, 2, none⟩) hy2).trans Y2.out
        have da := (HZ.out.cell (p := ⟨ga, k, none⟩) hga).trans DA.out
        by_cases hj2 : j < m
        · obtain ⟨u, hx⟩ : ∃ u, l[j]? = some u := ⟨_, List.getElem?_eq_getElem (by have := HMN.out; omega)⟩
          obtain ⟨u', hx', hm⟩ := map_at HM.out hx
          obtain ⟨gu, cu, cc, hv, _, _, _, hgu, rfl, hcell⟩ := (HL1.out.below HZ.out).at hx
          obtain ⟨gv, cv, cc', hv', _, _, _, hgv, rfl, hcell'⟩ := (HL2.out.below HZ.out).at hx'
          rw [HMN.out] at hv
          rw [HMN2.out] at hv'
          injection hv with hv1 hv2 hv3
          injection hv' with hv1' hv2' hv3'
          subst hv1 hv3 hv1' hv3'
          have z2 := (HZ.out.cell (p := ⟨w.heap.size + 1, 2, none⟩) hz2).trans Z2.out
          have db := (HZ.out.cell (p := ⟨gb, k, none⟩) hgb).trans DB.out
          have f0 := hcell 0 _ rfl
          have q0 := hcell' 0 _ rfl
          have f1 := hcell 1 _ rfl
          have q1 := hcell' 1 _ rfl
          have f2 := hcell 2 _ rfl
          have q2 := hcell' 2 _ rfl
          have f3 := hcell 3 _ rfl
          have q3 := hcell' 3 _ rfl
          have f4 := hcell 4 _ rfl
          have q4 := hcell' 4 _ rfl
          rw [show testK.size = 5 from rfl] at f0 f1 f2 f3 f4 q0 q1 q2 q3 q4
          rw [Nat.add_zero] at f0 q0
          have hji : (0 : Int) ≤ j ∧ (j : Int) < m := by omega
          have hsz := HZ.out.size
          have hy3 : w.heap.size < wr.heap.size := by omega
          have hz3 : w.heap.size + 1 < wr.heap.size := by omega
          have hga3 : ga < wr.heap.size := by omega
          have hgb3 : gb < wr.heap.size := by omega
          have HU := Lib.hid hm
          clear hcell hcell' hx hx' hm hsz
          go_upto_region 11 with fail
          refine wp_region_any (by kernel_rfl) ?_
          have hS0 : Below wr.heap.size wr wr.drew := (Below.refl _ _).drew
          refine any_of_held (S := fun W => Below wr.heap.size wr W) (N := []) _ _ _ _ ?_
          change held _ _ _ _ _ _ _ _ _ wr.drew
          obtain ⟨wa, hwa⟩ : ∃ wa, wr.drew = wa := ⟨_, rfl⟩
          rw [hwa] at hS0 ⊢
          clear hwa
          refine held_take [] (i := 0) (v := .pointer (some ⟨w.heap.size, 2, none⟩)) rfl (by kernel_rfl) (fun _ _ _ h => h) (Or.inl ⟨by rfl, fun w' hS => by go_simp⟩) hS0 ?_
          try simp only [Act.put, List.setIfInBounds_toArray, List.set_cons_zero, List.set_cons_succ]
          refine held_take [] (i := 1) (v := .slice (some ⟨ga, 0, none⟩) n c) rfl (by kernel_rfl) (fun _ _ _ h => h) (Or.inl ⟨by rfl, fun w' hS => by have := (hS.cell (p := ⟨w.heap.size, 2, none⟩) hy3).trans y2; go_simp⟩) hS0 ?_
          try simp only [Act.put, List.setIfInBounds_toArray, List.set_cons_zero, List.set_cons_succ]
          refine held_take [] (i := 2) (v := .int .i64 (k : Nat)) rfl (by kernel_rfl) (fun _ _ _ h => h) (Or.inl ⟨by rfl, fun w' hS => by go_simp⟩) hS0 ?_
          try simp only [Act.put, List.setIfInBounds_toArray, List.set_cons_zero, List.set_cons_succ]
          refine held_take [] (i := 3) (v := .pointer (some ⟨ga, k, none⟩)) rfl (by kernel_rfl) (fun _ _ _ h => h) (Or.inl ⟨by rfl, fun w' hS => by go_simp⟩) hS0 ?_
          try simp only [Act.put, List.setIfInBounds_toArray, List.set_cons_zero, List.set_cons_succ]
          refine held_take [] (i := 4) (v := .slice (some ⟨gu, 0, none⟩) m u1) rfl (by kernel_rfl) (fun _ _ _ h => h) (Or.inl ⟨by rfl, fun w' hS => by have := (hS.cell (p := ⟨ga, k, none⟩) hga3).trans da; go_simp⟩) hS0 ?_
          try simp only [Act.put, List.setIfInBounds_toArray, List.set_cons_zero, List.set_cons_succ]
          refine held_take [] (i := 5) (v := .int .i64 (j : Nat)) rfl (by kernel_rfl) (fun _ _ _ h => h) (Or.inl ⟨by rfl, fun w' hS => by go_simp⟩) hS0 ?_
          try simp only [Act.put, List.setIfInBounds_toArray, List.set_cons_zero, List.set_cons_succ]
          refine held_take [] (i := 6) (v := .pointer (some ⟨gu, j * 5, none⟩)) rfl (by kernel_rfl) (fun _ _ _ h => h) (Or.inl ⟨by rfl, fun w' hS => by go_simp⟩) hS0 ?_
          try simp only [Act.put, List.setIfInBounds_toArray, List.set_cons_zero, List.set_cons_succ]
          refine held_take [] (i := 7) (v := .agg #[.string ⟨u.attr.toArray⟩, .int .i64 (u.op : Nat), .string ⟨u.name.toArray⟩, .int .i64 (u.n : Nat), .int .i64 (u.pos : Nat)]) rfl (by kernel_rfl) (fun _ _ _ h => h) (Or.inl ⟨by rfl, fun w' hS => by have := (hS.cell (p := ⟨gu, j * 5, none⟩) hgu).trans f0; have := (hS.cell (p := ⟨gu, j * 5 + 1, none⟩) hgu).trans f1; have := (hS.cell (p := ⟨gu, j * 5 + 2, none⟩) hgu).trans f2; have := (hS.cell (p := ⟨gu, j * 5 + 3, none⟩) hgu).trans f3; have := (hS.cell (p := ⟨gu, j * 5 + 4, none⟩) hgu).trans f4; go_simp⟩) hS0 ?_
          try simp only [Act.put, List.setIfInBounds_toArray, List.set_cons_zero, List.set_cons_succ]
          refine held_take [] (i := 8) (v := .pointer (some ⟨(w.heap.size + 1), 2, none⟩)) rfl (by kernel_rfl) (fun _ _ _ h => h) (Or.inl ⟨by rfl, fun w' hS => by go_simp⟩) hS0 ?_
          try simp only [Act.put, List.setIfInBounds_toArray, List.set_cons_zero, List.set_cons_succ]
          refine held_take [] (i := 9) (v := .slice (some ⟨gb, 0, none⟩) n c') rfl (by kernel_rfl) (fun _ _ _ h => h) (Or.inl ⟨by rfl, fun w' hS => by have := (hS.cell (p := ⟨(w.heap.size + 1), 2, none⟩) hz3).trans z2; go_simp⟩) hS0 ?_
          try simp only [Act.put, List.setIfInBounds_toArray, List.set_cons_zero, List.set_cons_succ]
          refine held_take [] (i := 10) (v := .int .i64 (k : Nat)) rfl (by kernel_rfl) (fun _ _ _ h => h) (Or.inl ⟨by rfl, fun w' hS => by go_simp⟩) hS0 ?_
          try simp only [Act.put, List.setIfInBounds_toArray, List.set_cons_zero, List.set_cons_succ]
          refine held_take [] (i := 11) (v := .pointer (some ⟨gb, k, none⟩)) rfl (by kernel_rfl) (fun _ _ _ h => h) (Or.inl ⟨by rfl, fun w' hS => by go_simp⟩) hS0 ?_
          try simp only [Act.put, List.setIfInBounds_toArray, List.set_cons_zero, List.set_cons_succ]
          refine held_take [] (i := 12) (v := .slice (some ⟨gv, 0, none⟩) m u2) rfl (by kernel_rfl) (fun _ _ _ h => h) (Or.inl ⟨by rfl, fun w' hS => by have := (hS.cell (p := ⟨gb, k, none⟩) hgb3).trans db; go_simp⟩) hS0 ?_
          try simp only [Act.put, List.setIfInBounds_toArray, List.set_cons_zero, List.set_cons_succ]
          refine held_take [] (i := 13) (v := .int .i64 (j : Nat)) rfl (by kernel_rfl) (fun _ _ _ h => h) (Or.inl ⟨by rfl, fun w' hS => by go_simp⟩) hS0 ?_
          try simp only [Act.put, List.setIfInBounds_toArray, List.set_cons_zero, List.set_cons_succ]
          refine held_take [] (i := 14) (v := .pointer (some ⟨gv, j * 5, none⟩)) rfl (by kernel_rfl) (fun _ _ _ h => h) (Or.inl ⟨by rfl, fun w' hS => by go_simp⟩) hS0 ?_
          try simp only [Act.put, List.setIfInBounds_toArray, List.set_cons_zero, List.set_cons_succ]
          refine held_take [] (i := 15) (v := .agg #[.string ⟨u'.attr.toArray⟩, .int .i64 (u'.op : Nat), .string ⟨u'.name.toArray⟩, .int .i64 (u'.n : Nat), .int .i64 (u'.pos : Nat)]) rfl (by kernel_rfl) (fun _ _ _ h => h) (Or.inl ⟨by rfl, fun w' hS => by have := (hS.cell (p := ⟨gv, j * 5, none⟩) hgv).trans q0; have := (hS.cell (p := ⟨gv, j * 5 + 1, none⟩) hgv).trans q1; have := (hS.cell (p := ⟨gv, j * 5 + 2, none⟩) hgv).trans q2; have := (hS.cell (p := ⟨gv, j * 5 + 3, none⟩) hgv).trans q3; have := (hS.cell (p := ⟨gv, j * 5 + 4, none⟩) hgv).trans q4; go_simp⟩) hS0 ?_
          try simp only [Act.put, List.setIfInBounds_toArray, List.set_cons_zero, List.set_cons_succ]
          refine held_take [] (i := 16) (v := .bool true) rfl (by kernel_rfl) (fun _ _ _ h => h) (Or.inl ⟨by rfl, fun w' hS => by go_simp⟩) hS0 ?_
          try simp only [Act.put, List.setIfInBounds_toArray, List.set_cons_zero, List.set_cons_succ]
          refine held_one (i := 17) rfl (by kernel_rfl) (fun K hK => ?_)
          go_simp
          refine (sameTestv_true u u' HU.out wa).mono ?_
          rintro e W1 ⟨rfl, hw1⟩
          have hS1 : Below wr.heap.size wr W1 := hS0.trans (hw1.mono hS0.size)
          clear hS0 hw1
          refine hK.out _ _ (fun _ => hS1) ?_
          clear hK K
          try simp only [Act.put, List.setIfInBounds_toArray, List.set_cons_zero, List.set_cons_succ]
          refine held_take [] (i := 18) (v := .bool false) rfl (by kernel_rfl) (fun _ _ _ h => h) (Or.inl ⟨by rfl, fun w' hS => by go_simp⟩) hS1 ?_
          try simp only [Act.put, List.setIfInBounds_toArray, List.set_cons_zero, List.set_cons_succ]
          refine held_done (by kernel_rfl) ?_ _
          have HB1 := Lib.hid (HZ.out.trans (hS1.mono HZ.out.size))
          clear hS1
          go_wp2
          refine ⟨⟨j + 1, by go_num, by omega, HB1⟩, ?_⟩
          simp [intOf]; omega
        · obtain rfl : j = m := by omega
          have HB1 := Lib.hid (HB.out.trans (HZ.out.mono HB.out.size))
          go_wp2
          refine ⟨⟨k + 1, by go_num, by omega, HB1⟩, ?_⟩
          simp [intOf]; omega
    · obtain rfl : k = n := by omega
      go_wp2
      go_ret
      exact ⟨rfl, WB.out.trans (HB.out.mono WB.out.size)⟩
theorem sameItemv_true (x y : ItemP) (hxy : x.at_ (fun p => p) = y.at_ (fun p => p)) (v v' : Value) (F F' : Nat → Prop) (w : World) (h : IsList testsK w F 33 v x.conds) (h' : IsList testsK w F' 33 v' y.conds) :
    Calls Tryd.prog 8 #[.agg (itemCl x.kind x.name v x.head x.pos).toArray, .agg (itemCl y.kind y.name v' y.head y.pos).toArray, .bool true] w fun e w' => e = .returned (.bool true) ∧ Below w.heap.size w w' := by
  cases x; cases y
  simp only [ItemP.at_, ItemP.mk.injEq] at hxy
  obtain ⟨rfl, rfl, hr, rfl, h5⟩ := hxy
  exact sameItem_true _ _ _ _ _ h5 _ _ hr v v' F F' w h h'
set_option linter.unusedSimpArgs false in
set_option maxRecDepth 100000 in
set_option maxHeartbeats 8000000 in
theorem same_true (xs ys : List ItemP) (hr : xs.map (ItemP.at_ (fun p => p)) = ys.map (ItemP.at_ (fun p => p))) (v v' : Value) (F F' : Nat → Prop) (w : World) (h : IsList itemK w F 38 v xs) (h' : IsList itemK w F' 38 v' ys) :
    Calls Tryd.prog 7 #[.agg #[v], .agg #[v'], .bool true] w fun e w' => e = .returned (.bool true) ∧ Below w.heap.size w w' := by
  obtain ⟨a, c, rfl⟩ := h.len
  obtain ⟨a', c', rfl⟩ := h'.len
  have hl : ys.length = xs.length := by simpa using (congrArg List.length hr).symm
  obtain ⟨n, hn⟩ : ∃ n, xs.length = n := ⟨_, rfl⟩
  have hn9 := bound6 h
  rw [hl, hn] at h'
  rw [hn] at h hn9
  rw [hl, hn]
  have hb := below_boxes (w := w) (.cells #[.slice a n c] 25) (.cells #[.slice a' n c'] 25)
  have X1 := Lib.hid ((Blk.new w 25 [.slice a n c]).alloc (.cells #[.slice a' n c'] 25))
  have x2 := Blk.new (w.alloc (.cells #[.slice a n c] 25)) 25 [.slice a' n c']
  rw [World.size_alloc] at x2
  have X2 := Lib.hid x2
  have HL := Lib.hid (h.late hb)
  have HL' := Lib.hid (h'.late hb)
  have WB := Lib.hid hb
  clear hb x2
  go_enter Tryd.func7, Tryd.ntmps7
  go_upto_region 1 with fail
  generalize (w.alloc (.cells #[.slice a n c] 25)).alloc (.cells #[.slice a' n c'] 25) = W at *
  have y0 := X1.out.cell (i := 0) rfl
  have z0 := X2.out.cell (i := 0) rfl
  have HB0 := Lib.hid (Below.refl W.heap.size W)
  have HN := Lib.hid hn; have HR := Lib.hid hr; have HN2 := Lib.hid (hl.trans hn)
  clear hn h h' hr hl
  go_wp2
  go_loopw [7] (fun i wr => ∃ k : Nat, i = .int .i64 k ∧ k ≤ n ∧ Hid (Below W.heap.size W wr)) (fun i _ => n - (intOf i).toNat)
  case atStart => exact ⟨0, rfl, Nat.zero_le _, HB0⟩
  case round =>
    obtain ⟨k, rfl, hk, HB⟩ := hrel
    clear y0 z0
    have xb := X1.out.below HB.out
    have zb := X2.out.below HB.out
    have y0 := xb.cell (i := 0) rfl
    have z0 := zb.cell (i := 0) rfl
    have hy0 := xb.lt
    have hz0 := zb.lt
    clear xb zb
    by_cases hk2 : k < n
    · obtain ⟨m, hx⟩ : ∃ m, xs[k]? = some m := ⟨_, List.getElem?_eq_getElem (by have := HN.out; omega)⟩
      obtain ⟨m', hx', hm⟩ := map_at HR.out hx
      obtain ⟨g, cap, cs, hv, _, _, _, hg, ⟨vm, rfl, hm1⟩, hcell⟩ := (HL.out.below HB.out).at hx
      obtain ⟨g', cap', cs', hv', _, _, _, hg', ⟨vm', rfl, hm2⟩, hcell'⟩ := (HL'.out.below HB.out).at hx'
      rw [HN.out] at hv
      rw [HN2.out] at hv'
      injection hv with hv1 hv2 hv3
      injection hv' with hv1' hv2' hv3'
      subst hv1 hv3 hv1' hv3'
      obtain ⟨va, vn, vc, rfl⟩ := hm1.slice
      obtain ⟨va', vn', vc', rfl⟩ := hm2.slice
      have d0 := hcell 0 _ rfl
      have q0 := hcell' 0 _ rfl
      have d1 := hcell 1 _ rfl
      have q1 := hcell' 1 _ rfl
      have d2 := hcell 2 _ rfl
      have q2 := hcell' 2 _ rfl
      have d3 := hcell 3 _ rfl
      have q3 := hcell' 3 _ rfl
      have d4 := hcell 4 _ rfl
      have q4 := hcell' 4 _ rfl
      have d5 := hcell 5 _ rfl
      have q5 := hcell' 5 _ rfl
      have d6 := hcell 6 _ rfl
      have q6 := hcell' 6 _ rfl
      have d7 := hcell 7 _ rfl
      have q7 := hcell' 7 _ rfl
      have d8 := hcell 8 _ rfl
      have q8 := hcell' 8 _ rfl
      rw [show itemK.size = 9 from rfl] at d0 q0 d1 q1 d2 q2 d3 q3 d4 q4 d5 q5 d6 q6 d7 q7 d8 q8
      rw [Nat.add_zero] at d0 q0
      have hki : (0 : Int) ≤ k ∧ (k : Int) < n := by omega
      clear hcell hcell' hx hx'
      have HM := Lib.hid hm; have HM1 := Lib.hid hm1; have HM2 := Lib.hid hm2
      clear hm hm1 hm2
      go_upto_region 6 with fail
      refine wp_region_any (by kernel_rfl) ?_
      have hS0 : Below wr.heap.size wr wr.drew := (Below.refl _ _).drew
      refine any_of_held (S := fun W => Below wr.heap.size wr W) (N := []) _ _ _ _ ?_
      change held _ _ _ _ _ _ _ _ _ wr.drew
      obtain ⟨wa, hwa⟩ : ∃ wa, wr.drew = wa := ⟨_, rfl⟩
      rw [hwa] at hS0 ⊢
      clear hwa
      refine held_take [] (i := 0) (v := .pointer (some ⟨w.heap.size, 0, none⟩)) rfl (by kernel_rfl) (fun _ _ _ h => h) (Or.inl ⟨by rfl, fun w' hS => by go_simp⟩) hS0 ?_
      try simp only [Act.put, List.setIfInBounds_toArray, List.set_cons_zero, List.set_cons_succ]
      refine held_take [] (i := 1) (v := .slice (some ⟨g, 0, none⟩) n c) rfl (by kernel_rfl) (fun _ _ _ h => h) (Or.inl ⟨by rfl, fun w' hS => by have := (hS.cell (p := ⟨w.heap.size, 0, none⟩) hy0).trans y0; go_simp⟩) hS0 ?_
      try simp only [Act.put, List.setIfInBounds_toArray, List.set_cons_zero, List.set_cons_succ]
      refine held_take [] (i := 2) (v := .int .i64 (k : Nat)) rfl (by kernel_rfl) (fun _ _ _ h => h) (Or.inl ⟨by rfl, fun w' hS => by go_simp⟩) hS0 ?_
      try simp only [Act.put, List.setIfInBounds_toArray, List.set_cons_zero, List.set_cons_succ]
      refine held_take [] (i := 3) (v := .pointer (some ⟨g, k * 9, none⟩)) rfl (by kernel_rfl) (fun _ _ _ h => h) (Or.inl ⟨by rfl, fun w' hS => by go_simp⟩) hS0 ?_
      try simp only [Act.put, List.setIfInBounds_toArray, List.set_cons_zero, List.set_cons_succ]
      refine held_take [] (i := 4) (v := .agg #[.int .i64 (m.kind : Nat), .string ⟨m.name.toArray⟩, (.slice va vn vc), .int .i64 (m.head.n : Nat), .int .i64 (m.head.rn : Nat), .int .i64 (m.head.rd : Nat), .int .i64 (m.head.sn : Nat), .int .i64 (m.head.sd : Nat), .int .i64 (m.pos : Nat)]) rfl (by kernel_rfl) (fun _ _ _ h => h) (Or.inl ⟨by rfl, fun w' hS => by have := (hS.cell (p := ⟨g, k * 9, none⟩) hg).trans d0; have := (hS.cell (p := ⟨g, k * 9 + 1, none⟩) hg).trans d1; have := (hS.cell (p := ⟨g, k * 9 + 2, none⟩) hg).trans d2; have := (hS.cell (p := ⟨g, k * 9 + 3, none⟩) hg).trans d3; have := (hS.cell (p := ⟨g, k * 9 + 4, none⟩) hg).trans d4; have := (hS.cell (p := ⟨g, k * 9 + 5, none⟩) hg).trans d5; have := (hS.cell (p := ⟨g, k * 9 + 6, none⟩) hg).trans d6; have := (hS.cell (p := ⟨g, k * 9 + 7, none⟩) hg).trans d7; have := (hS.cell (p := ⟨g, k * 9 + 8, none⟩) hg).trans d8; go_simp⟩) hS0 ?_
      try simp only [Act.put, List.setIfInBounds_toArray, List.set_cons_zero, List.set_cons_succ]
      refine held_take [] (i := 5) (v := .pointer (some ⟨(w.heap.size + 1), 0, none⟩)) rfl (by kernel_rfl) (fun _ _ _ h => h) (Or.inl ⟨by rfl, fun w' hS => by go_simp⟩) hS0 ?_
      try simp only [Act.put, List.setIfInBounds_toArray, List.set_cons_zero, List.set_cons_succ]
      refine held_take [] (i := 6) (v := .slice (some ⟨g', 0, none⟩) n c') rfl (by kernel_rfl) (fun _ _ _ h => h) (Or.inl ⟨by rfl, fun w' hS => by have := (hS.cell (p := ⟨(w.heap.size + 1), 0, none⟩) hz0).trans z0; go_simp⟩) hS0 ?_
      try simp only [Act.put, List.setIfInBounds_toArray, List.set_cons_zero, List.set_cons_succ]
      refine held_take [] (i := 7) (v := .int .i64 (k : Nat)) rfl (by kernel_rfl) (fun _ _ _ h => h) (Or.inl ⟨by rfl, fun w' hS => by go_simp⟩) hS0 ?_
      try simp only [Act.put, List.setIfInBounds_toArray, List.set_cons_zero, List.set_cons_succ]
      refine held_take [] (i := 8) (v := .pointer (some ⟨g', k * 9, none⟩)) rfl (by kernel_rfl) (fun _ _ _ h => h) (Or.inl ⟨by rfl, fun w' hS => by go_simp⟩) hS0 ?_
      try simp only [Act.put, List.setIfInBounds_toArray, List.set_cons_zero, List.set_cons_succ]
      refine held_take [] (i := 9) (v := .agg #[.int .i64 (m'.kind : Nat), .string ⟨m'.name.toArray⟩, (.slice va' vn' vc'), .int .i64 (m'.head.n : Nat), .int .i64 (m'.head.rn : Nat), .int .i64 (m'.head.rd : Nat), .int .i64 (m'.head.sn : Nat), .int .i64 (m'.head.sd : Nat), .int .i64 (m'.pos : Nat)]) rfl (by kernel_rfl) (fun _ _ _ h => h) (Or.inl ⟨by rfl, fun w' hS => by have := (hS.cell (p := ⟨g', k * 9, none⟩) hg').trans q0; have := (hS.cell (p := ⟨g', k * 9 + 1, none⟩) hg').trans q1; have := (hS.cell (p := ⟨g', k * 9 + 2, none⟩) hg').trans q2; have := (hS.cell (p := ⟨g', k * 9 + 3, none⟩) hg').trans q3; have := (hS.cell (p := ⟨g', k * 9 + 4, none⟩) hg').trans q4; have := (hS.cell (p := ⟨g', k * 9 + 5, none⟩) hg').trans q5; have := (hS.cell (p := ⟨g', k * 9 + 6, none⟩) hg').trans q6; have := (hS.cell (p := ⟨g', k * 9 + 7, none⟩) hg').trans q7; have := (hS.cell (p := ⟨g', k * 9 + 8, none⟩) hg').trans q8; go_simp⟩) hS0 ?_
      try simp only [Act.put, List.setIfInBounds_toArray, List.set_cons_zero, List.set_cons_succ]
      refine held_take [] (i := 10) (v := .bool true) rfl (by kernel_rfl) (fun _ _ _ h => h) (Or.inl ⟨by rfl, fun w' hS => by go_simp⟩) hS0 ?_
      try simp only [Act.put, List.setIfInBounds_toArray, List.set_cons_zero, List.set_cons_succ]
      refine held_one (i := 11) rfl (by kernel_rfl) (fun K hK => ?_)
      go_simp
      refine (sameItemv_true m m' HM.out _ _ _ _ wa (HM1.out.below hS0) (HM2.out.below hS0)).mono ?_
      rintro e W1 ⟨rfl, hw1⟩
      have hS1 : Below wr.heap.size wr W1 := hS0.trans (hw1.mono hS0.size)
      clear hS0 hw1
      refine hK.out _ _ (fun _ => hS1) ?_
      clear hK K
      try simp only [Act.put, List.setIfInBounds_toArray, List.set_cons_zero, List.set_cons_succ]
      refine held_take [] (i := 12) (v := .bool false) rfl (by kernel_rfl) (fun _ _ _ h => h) (Or.inl ⟨by rfl, fun w' hS => by go_simp⟩) hS1 ?_
      try simp only [Act.put, List.setIfInBounds_toArray, List.set_cons_zero, List.set_cons_succ]
      refine held_done (by kernel_rfl) ?_ _
      have HB1 := Lib.hid (HB.out.trans (hS1.mono HB.out.size))
      clear hS1
      go_wp2
      refine ⟨⟨k + 1, by go_num, by omega, HB1⟩, ?_⟩
      simp [intOf]; omega
    · obtain rfl : k = n := by omega
      go_wp2
      go_ret
      exact ⟨rfl, WB.out.trans (HB.out.mono WB.out.size)⟩
end Go.Proofs.YtlfjdohjfmfcdabDoor
