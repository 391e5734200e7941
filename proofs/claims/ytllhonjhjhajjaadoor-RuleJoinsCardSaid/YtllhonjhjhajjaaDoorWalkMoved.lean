/-
  The walk of rules with greater offsets.
-/
import Derived.Test.YtllhonjhjhajjaaDoorMathJoins
import Derived.Test.YtllhonjhjhajjaaDoorWalkParse
import Derived.Test.YtllhonjhjhajjaaDoorRefSame7
import Derived.Test.YtllhonjhjhajjaaDoorRound
namespace Go.Proofs.YtllhonjhjhajjaaDoor
open Go.RowKit Go.Sort Go.Shelf Foyer.Rule Foyer.Round

theorem moved_item_info : (Tryd.prog.info? 42).map (fun i => (i.zero, i.size, i.bytes)) = some (some (.agg #[.int .i64 0, .string ⟨#[]⟩, .slice none 0 0, .int .i64 0, .int .i64 0, .int .i64 0, .int .i64 0, .int .i64 0, .int .i64 0]), itemK.size, 96) := by kernel_rfl
theorem take_snoc {α β : Type} (f : α → β) {l : List α} {k : Nat} {x : α} (h : l[k]? = some x) : (l.take (k + 1)).map f = (l.take k).map f ++ [f x] := by
  obtain ⟨h1, h2⟩ := List.getElem?_eq_some_iff.1 h
  rw [List.take_succ_eq_append_getElem h1, h2, List.map_append]
  rfl
theorem take_length_map {α β : Type} (f : α → β) {l : List α} {k : Nat} (h : k ≤ l.length) : ((l.take k).map f).length = k := by
  rw [List.length_map, List.length_take]; omega
set_option linter.unusedSimpArgs false in
set_option maxRecDepth 100000 in
set_option maxHeartbeats 8000000 in
theorem moved_any (xs : List ItemP) (d N : Nat) (hd : d ≤ 4001) (hN : N ≤ 4000) (hs : Small N xs) (hn : xs.length ≤ 200) (v : Value) (F : Nat → Prop) (w : World) (h : IsList itemK w F 42 v xs) :
    Calls Tryd.prog 14 #[.agg #[v], .int .i64 (d : Nat)] w fun e w' => (∃ v', e = .returned (.agg #[v']) ∧ IsList itemK w' (fun k => w.heap.size ≤ k) 42 v' (xs.map (ItemP.moved d))) ∧ Below w.heap.size w w' := by
  obtain ⟨a, c, rfl⟩ := h.len
  obtain ⟨n, hxn⟩ : ∃ n, xs.length = n := ⟨_, rfl⟩
  rw [hxn] at hn h
  rw [hxn]
  have hb : Below w.heap.size w (((w.alloc (.cells #[.slice a n c] 25)).alloc (.cells #[.slice none 0 0] 25)).alloc (.cells #[.slice none 0 0] 25)) := (below_boxes _ _).alloc (by simp; omega) _
  have X2 := Lib.hid (((Blk.new w 25 [.slice a n c]).alloc (.cells #[.slice none 0 0] 25)).alloc (.cells #[.slice none 0 0] 25))
  have x4 := (Blk.new (w.alloc (.cells #[.slice a n c] 25)) 25 [.slice none 0 0]).alloc (.cells #[.slice none 0 0] 25)
  have x5 := Blk.new ((w.alloc (.cells #[.slice a n c] 25)).alloc (.cells #[.slice none 0 0] 25)) 25 [.slice none 0 0]
  rw [World.size_alloc] at x4
  rw [World.size_alloc, World.size_alloc] at x5
  have hWs : (((w.alloc (.cells #[.slice a n c] 25)).alloc (.cells #[.slice none 0 0] 25)).alloc (.cells #[.slice none 0 0] 25)).heap.size = w.heap.size + 3 := by simp
  have X4 := Lib.hid x4; have X5 := Lib.hid x5; have WB := Lib.hid hb; have HL := Lib.hid h; have HXN := Lib.hid hxn; have HSM := Lib.hid hs
  clear hb x4 x5 h hxn hs
  go_enter Tryd.func14, Tryd.ntmps14
  go_upto_region 2 with fail
  generalize ((w.alloc (.cells #[.slice a n c] 25)).alloc (.cells #[.slice none 0 0] 25)).alloc (.cells #[.slice none 0 0] 25) = W at *
  go_wp2
  go_loopw [6] (fun i wr => ∃ (k : Nat) (vo : Value), i = .int .i64 k ∧ k ≤ n ∧ Hid (Kp (onlyB (w.heap.size + 1 + 1)) W wr) ∧ Hid (Blk wr (w.heap.size + 1 + 1) 25 [vo]) ∧ Hid (Building itemK wr (fun q => W.heap.size ≤ q ∧ vo.ownBlock ≠ some q) W.heap.size 42 vo ((xs.take k).map (ItemP.moved d)))) (fun i _ => n - (intOf i).toNat)
  case atStart => exact ⟨0, _, rfl, Nat.zero_le _, Lib.hid (Kp.refl _ _), X5, Lib.hid (building_nil _ _ _ _ _)⟩
  case round =>
    obtain ⟨k, vo, rfl, hk, HK, HV5, HBO⟩ := hrel
    have hbw : Below w.heap.size w wr := WB.out.trans (HK.out.below (by omega) (fun q hq => by have : q = w.heap.size + 1 + 1 := hq; omega))
    have x2 := (X2.out.kept HK.out (fun h => by have : w.heap.size = w.heap.size + 1 + 1 := h; omega)).cell (i := 0) rfl
    have hws := HK.out.size
    by_cases hk2 : k < n
    · obtain ⟨x, hx⟩ : ∃ x, xs[k]? = some x := ⟨_, List.getElem?_eq_getElem (by have := HXN.out; omega)⟩
      obtain ⟨hp1, hp2, hp3⟩ := HSM.out x (List.mem_of_getElem? hx)
      have hlate := HL.out.late hbw
      obtain ⟨g, cap, cs, hv, _, _, _, hg, ⟨vm, rfl, hm1⟩, hcell⟩ := hlate.at hx
      rw [HXN.out] at hv
      injection hv with hv1 hv2 hv3
      subst hv1 hv3
      obtain ⟨va, vc, rfl⟩ := hm1.len
      obtain ⟨m, hm⟩ : ∃ m, x.conds.length = m := ⟨_, rfl⟩
      rw [hm] at hm1 hcell hp2
      have d0 := hcell 0 _ rfl
      have d1 := hcell 1 _ rfl
      have d2 := hcell 2 _ rfl
      have d3 := hcell 3 _ rfl
      have d4 := hcell 4 _ rfl
      have d5 := hcell 5 _ rfl
      have d6 := hcell 6 _ rfl
      have d7 := hcell 7 _ rfl
      have d8 := hcell 8 _ rfl
      rw [show itemK.size = 9 from rfl] at d0 d1 d2 d3 d4 d5 d6 d7 d8
      rw [Nat.add_zero] at d0
      have hki : (0 : Int) ≤ k ∧ (k : Int) < n := by omega
      have HX := Lib.hid hx; have HP3 := Lib.hid hp3; have HM1 := Lib.hid hm1; have HM := Lib.hid hm; have HBW := Lib.hid hbw
      clear hcell hx hp3 hm1 hm hlate hbw
      go_upto_region 6 with fail
      obtain ⟨p, hp⟩ : ∃ p : Nat, x.pos + d = p := ⟨_, rfl⟩
      have hw8 : IntKind.i64.wrap ((x.pos : Int) + (d : Int)) = (p : Int) := by rw [IntKind.wrap_i64]; omega
      have V7 : Hid (Blk (wr.alloc (.cells #[.int .i64 (x.kind : Nat), .string ⟨x.name.toArray⟩, .slice va m vc, .int .i64 (x.head.n : Nat), .int .i64 (x.head.rn : Nat), .int .i64 (x.head.rd : Nat), .int .i64 (x.head.sn : Nat), .int .i64 (x.head.sd : Nat), .int .i64 (x.pos : Nat)] 42)) wr.heap.size 42 [.int .i64 (x.kind : Nat), .string ⟨x.name.toArray⟩, .slice va m vc, .int .i64 (x.head.n : Nat), .int .i64 (x.head.rn : Nat), .int .i64 (x.head.rd : Nat), .int .i64 (x.head.sn : Nat), .int .i64 (x.head.sd : Nat), .int .i64 (x.pos : Nat)]) := Lib.hid (Blk.new wr 42 [.int .i64 (x.kind : Nat), .string ⟨x.name.toArray⟩, .slice va m vc, .int .i64 (x.head.n : Nat), .int .i64 (x.head.rn : Nat), .int .i64 (x.head.rd : Nat), .int .i64 (x.head.sn : Nat), .int .i64 (x.head.sd : Nat), .int .i64 (x.pos : Nat)])
      have hS7 : Below wr.heap.size wr (wr.alloc (.cells #[.int .i64 (x.kind : Nat), .string ⟨x.name.toArray⟩, .slice va m vc, .int .i64 (x.head.n : Nat), .int .i64 (x.head.rn : Nat), .int .i64 (x.head.rd : Nat), .int .i64 (x.head.sn : Nat), .int .i64 (x.head.sd : Nat), .int .i64 (x.pos : Nat)] 42)) := (Below.refl _ _).alloc (Nat.le_refl _) _
      generalize wr.alloc (.cells #[.int .i64 (x.kind : Nat), .string ⟨x.name.toArray⟩, .slice va m vc, .int .i64 (x.head.n : Nat), .int .i64 (x.head.rn : Nat), .int .i64 (x.head.rd : Nat), .int .i64 (x.head.sn : Nat), .int .i64 (x.head.sd : Nat), .int .i64 (x.pos : Nat)] 42) = X7 at *
      have c8 := V7.out.cell (i := 8) rfl
      have f8 := V7.out.free
      go_upto_region 7 with fail
      have V8 : Hid (Blk (X7.setCell ⟨wr.heap.size, 8, none⟩ (.int .i64 (p : Nat))) wr.heap.size 42 [.int .i64 (x.kind : Nat), .string ⟨x.name.toArray⟩, .slice va m vc, .int .i64 (x.head.n : Nat), .int .i64 (x.head.rn : Nat), .int .i64 (x.head.rd : Nat), .int .i64 (x.head.sn : Nat), .int .i64 (x.head.sd : Nat), .int .i64 (p : Nat)]) := Lib.hid (V7.out.set 8 (.int .i64 (p : Nat)))
      have hS8 : Below wr.heap.size wr (X7.setCell ⟨wr.heap.size, 8, none⟩ (.int .i64 (p : Nat))) := hS7.setCell (p := ⟨wr.heap.size, 8, none⟩) (Nat.le_refl _) _
      generalize X7.setCell ⟨wr.heap.size, 8, none⟩ (.int .i64 (p : Nat)) = X8 at *
      have HM2 := Lib.hid (HM1.out.late hS8)
      have HS8 := Lib.hid hS8; have HP := Lib.hid hp
      have hlt8 := V8.out.lt
      clear c8 f8 hS7 hS8 V7 HM1 hw8 hp d0 d1 d2 d3 d4 d5 d6 d7 d8 x2
      generalize wr = wo at *
      go_wp2
      go_loopw [8, 9] (fun vw i wr => ∃ k2 : Nat, i = .int .i64 k2 ∧ k2 ≤ m ∧ Hid (Below X8.heap.size X8 wr) ∧ Hid (Building testsK wr (fun q => X8.heap.size ≤ q ∧ vw.ownBlock ≠ some q) X8.heap.size 46 vw ((x.conds.take k2).map (List.map (TestP.at_ fun p => p + d))))) (fun _ i _ => m - (intOf i).toNat)
      case atStart => exact ⟨0, rfl, Nat.zero_le _, Lib.hid (Below.refl _ _), Lib.hid (building_nil _ _ _ _ _)⟩
      case round =>
        obtain ⟨k2, rfl, hk2, HZ, HB2⟩ := hrel
        obtain ⟨wa2, wc2, rfl⟩ := HB2.out.len
        have hl2 : ((x.conds.take k2).map (List.map (TestP.at_ fun p => p + d))).length = k2 := take_length_map _ (by have := HM.out; omega)
        rw [hl2] at HB2 ⊢
        clear hl2
        have V9 := Lib.hid (V8.out.below HZ.out)
        have y2 := V9.out.cell (i := 2) rfl
        by_cases hkm : k2 < m
        · obtain ⟨l, hl⟩ : ∃ l, x.conds[k2]? = some l := ⟨_, List.getElem?_eq_getElem (by have := HM.out; omega)⟩
          obtain ⟨hq1, hq2⟩ := HP3.out l (List.mem_of_getElem? hl)
          obtain ⟨ga, cpa, csa, hva, _, _, _, hga, ⟨vl, rfl, hl1⟩, hcella⟩ := (HM2.out.below HZ.out).at hl
          rw [HM.out] at hva
          injection hva with hva1 hva2 hva3
          subst hva1 hva3
          obtain ⟨ua, uc, rfl⟩ := hl1.len
          obtain ⟨n2, hn2⟩ : ∃ n2, l.length = n2 := ⟨_, rfl⟩
          rw [hn2] at hl1 hcella hq1
          have da := hcella 0 _ rfl
          rw [show testsK.size = 1 from rfl, Nat.mul_one, Nat.add_zero] at da
          have hk2i : (0 : Int) ≤ k2 ∧ (k2 : Int) < m := by omega
          have HLL := Lib.hid hl; have HQ2 := Lib.hid hq2; have HL1 := Lib.hid hl1; have HN2 := Lib.hid hn2; have HDA := Lib.hid da
          clear hl hq2 hl1 hn2 hcella da
          generalize wr = w3 at *
          go_wp2
          go_loopw [10, 11] (fun vl i wr => ∃ k3 : Nat, i = .int .i64 k3 ∧ k3 ≤ n2 ∧ Hid (Below w3.heap.size w3 wr) ∧ Hid (Building testK wr (fun q => w3.heap.size ≤ q ∧ vl.ownBlock ≠ some q) w3.heap.size 48 vl ((l.take k3).map (TestP.at_ fun p => p + d)))) (fun _ i _ => n2 - (intOf i).toNat)
          case atStart => exact ⟨0, rfl, Nat.zero_le _, Lib.hid (Below.refl _ _), Lib.hid (building_nil _ _ _ _ _)⟩
          case round =>
            obtain ⟨k3, rfl, hk3, HZ3, HB3⟩ := hrel
            obtain ⟨la, lc, rfl⟩ := HB3.out.len
            have hl3 : ((l.take k3).map (TestP.at_ fun p => p + d)).length = k3 := take_length_map _ (by have := HN2.out; omega)
            rw [hl3] at HB3 ⊢
            clear hl3
            clear y2
            have y2 := (V9.out.below HZ3.out).cell (i := 2) rfl
            have da := (HZ3.out.cell (p := ⟨ga, k2, none⟩) hga).trans HDA.out
            by_cases hk3n : k3 < n2
            · obtain ⟨t, ht⟩ : ∃ t, l[k3]? = some t := ⟨_, List.getElem?_eq_getElem (by have := HN2.out; omega)⟩
              have htp := HQ2.out t (List.mem_of_getElem? ht)
              obtain ⟨gu, cu, cc, hvu, _, _, _, hgu, rfl, hcellu⟩ := (HL1.out.below HZ3.out).at ht
              rw [HN2.out] at hvu
              injection hvu with hvu1 hvu2 hvu3
              subst hvu1 hvu3
              have f0 := hcellu 0 _ rfl
              have f1 := hcellu 1 _ rfl
              have f2 := hcellu 2 _ rfl
              have f3 := hcellu 3 _ rfl
              have f4 := hcellu 4 _ rfl
              rw [show testK.size = 5 from rfl] at f0 f1 f2 f3 f4
              rw [Nat.add_zero] at f0
              have hk3i : (0 : Int) ≤ k3 ∧ (k3 : Int) < n2 := by omega
              have HT := Lib.hid ht
              clear hcellu ht
              go_upto_region 16 with fail
              obtain ⟨tp, htq⟩ : ∃ p : Nat, t.pos + d = p := ⟨_, rfl⟩
              have hw4 : IntKind.i64.wrap ((t.pos : Int) + (d : Int)) = (tp : Int) := by rw [IntKind.wrap_i64]; omega
              have U5 : Hid (Blk (wr.alloc (.cells #[.string ⟨t.attr.toArray⟩, .int .i64 (t.op : Nat), .string ⟨t.name.toArray⟩, .int .i64 (t.n : Nat), .int .i64 (t.pos : Nat)] 48)) wr.heap.size 48 [.string ⟨t.attr.toArray⟩, .int .i64 (t.op : Nat), .string ⟨t.name.toArray⟩, .int .i64 (t.n : Nat), .int .i64 (t.pos : Nat)]) := Lib.hid (Blk.new wr 48 [.string ⟨t.attr.toArray⟩, .int .i64 (t.op : Nat), .string ⟨t.name.toArray⟩, .int .i64 (t.n : Nat), .int .i64 (t.pos : Nat)])
              have hT5 : Below wr.heap.size wr (wr.alloc (.cells #[.string ⟨t.attr.toArray⟩, .int .i64 (t.op : Nat), .string ⟨t.name.toArray⟩, .int .i64 (t.n : Nat), .int .i64 (t.pos : Nat)] 48)) := (Below.refl _ _).alloc (Nat.le_refl _) _
              generalize wr.alloc (.cells #[.string ⟨t.attr.toArray⟩, .int .i64 (t.op : Nat), .string ⟨t.name.toArray⟩, .int .i64 (t.n : Nat), .int .i64 (t.pos : Nat)] 48) = X5 at *
              have c4 := U5.out.cell (i := 4) rfl
              have g4 := U5.out.free
              go_upto_region 17 with fail
              have U6 : Hid (Blk (X5.setCell ⟨wr.heap.size, 4, none⟩ (.int .i64 (tp : Nat))) wr.heap.size 48 [.string ⟨t.attr.toArray⟩, .int .i64 (t.op : Nat), .string ⟨t.name.toArray⟩, .int .i64 (t.n : Nat), .int .i64 (tp : Nat)]) := Lib.hid (U5.out.set 4 (.int .i64 (tp : Nat)))
              have hT6 : Below wr.heap.size wr (X5.setCell ⟨wr.heap.size, 4, none⟩ (.int .i64 (tp : Nat))) := hT5.setCell (p := ⟨wr.heap.size, 4, none⟩) (Nat.le_refl _) _
              generalize X5.setCell ⟨wr.heap.size, 4, none⟩ (.int .i64 (tp : Nat)) = X6 at *
              have HS6 := Lib.hid (HZ3.out.trans (hT6.mono HZ3.out.size))
              have B6 := Lib.hid (HB3.out.kept (fun j hj => hT6.block j (HB3.out.lt hj).2) (fun j _ hlt => hT6.block j hlt) (fun _ h _ => h))
              have hbs := HS6.out.size
              obtain ⟨i0, hi, hz0, hz1, hz2⟩ := info_parts' listTest_info
              obtain ⟨css, hcon, hall⟩ := B6.out
              have hown : ∀ q, (Value.slice la k3 lc).ownBlock = some q → q < X6.heap.size := fun q hq => (B6.out.lt hq).2
              have hc : testK.is X6 (fun q => X6.heap.size ≤ q) [.string ⟨t.attr.toArray⟩, .int .i64 (t.op : Nat), .string ⟨t.name.toArray⟩, .int .i64 (t.n : Nat), .int .i64 (tp : Nat)] (t.at_ fun p => p + d) := by subst htq; rfl
              have HI := Lib.hid hi; have HZ0 := Lib.hid hz0; have HZ1 := Lib.hid hz1; have HZ2 := Lib.hid hz2
              have HCON := Lib.hid hcon; have HALL := Lib.hid hall; have HOW := Lib.hid hown; have HC := Lib.hid hc
              have HXL : Hid (css.length + 1 ≤ 1000000) := Lib.hid (by rw [All2.length HALL.out, take_length_map _ (by have := HN2.out; omega)]; omega)
              have e0 := U6.out.cell (i := 0) rfl
              have e1 := U6.out.cell (i := 1) rfl
              have e2 := U6.out.cell (i := 2) rfl
              have e3 := U6.out.cell (i := 3) rfl
              have e4 := U6.out.cell (i := 4) rfl
              clear hi hz0 hz1 hz2 hcon hall hown hc c4 g4 f0 f1 f2 f3 f4 y2 da hT5 hT6 hw4 htq
              go_wp2_with (refine wpList_append_con (t := 46) (T := 48) (m := testK.size) (B := w3.heap.size) Tryd.underlying46 HI.out HZ0.out HZ1.out HZ2.out rfl (by decide) (by decide) rfl (.tmp 60) (.tmp 62) rfl _ css [.string ⟨t.attr.toArray⟩, .int .i64 (t.op : Nat), .string ⟨t.name.toArray⟩, .int .i64 (t.n : Nat), .int .i64 (tp : Nat)] rfl (HCON.out.of_block (fun k hk => Below.heap_alloc _ _ _ (HOW.out k hk))) X6.heap.size rfl (Blk.new X6 48 [.string ⟨t.attr.toArray⟩, .int .i64 (t.op : Nat), .string ⟨t.name.toArray⟩, .int .i64 (t.n : Nat), .int .i64 (tp : Nat)]) (testK.len HC.out) (testK.one HC.out) HXL.out (by rw [World.size_alloc]; omega) ?_; intro v' W4 hcon' hg hat hone; have BN := Lib.hid (building_snoc HALL.out HC.out hbs HOW.out hcon' hg hat); have SN := Lib.hid ((HS6.out.alloc hbs (.cells ([.string ⟨t.attr.toArray⟩, .int .i64 (t.op : Nat), .string ⟨t.name.toArray⟩, .int .i64 (t.n : Nat), .int .i64 (tp : Nat)] : List Value).toArray 48)).grown hg (by rw [World.size_alloc]; omega) (fun q hq => (own_lt HCON.out.own hq).1)); clear hcon' hg hat)
              refine ⟨⟨k3 + 1, by go_num, by omega, SN, Lib.hid (by rw [take_snoc _ HT.out]; exact BN.out)⟩, ?_⟩
              simp [intOf]; omega
            · obtain rfl : k3 = n2 := by omega
              have hlen : (l.take k3).map (TestP.at_ fun p => p + d) = l.map (TestP.at_ fun p => p + d) := by rw [List.take_of_length_le (by have := HN2.out; omega)]
              have hid := HB3.out.done (F' := fun q => w3.heap.size ≤ q) (fun q hq _ => hq.1) (fun q hq => hq)
              rw [hlen] at hid
              have B6 := Lib.hid (HB2.out.kept (fun j hj => HZ3.out.block j (HB2.out.lt hj).2) (fun j _ hlt => HZ3.out.block j hlt) (fun _ h _ => h))
              have hbs := HZ.out.size
              have hb3 := HZ3.out.size
              obtain ⟨i0, hi, hz0, hz1, hz2⟩ := info_parts' listTests_info
              obtain ⟨css, hcon, hall⟩ := B6.out
              have hown : ∀ q, (Value.slice wa2 k2 wc2).ownBlock = some q → q < w3.heap.size := fun q hq => (HB2.out.lt hq).2
              have hc : testsK.is wr (fun q => w3.heap.size ≤ q) [.slice la k3 lc] (l.map (TestP.at_ fun p => p + d)) := ⟨_, rfl, hid⟩
              have HI := Lib.hid hi; have HZ0 := Lib.hid hz0; have HZ1 := Lib.hid hz1; have HZ2 := Lib.hid hz2
              have HCON := Lib.hid hcon; have HALL := Lib.hid hall; have HOW := Lib.hid hown; have HC := Lib.hid hc
              have HXL : Hid (css.length + 1 ≤ 1000000) := Lib.hid (by rw [All2.length HALL.out, take_length_map _ (by have := HM.out; omega)]; omega)
              have HS6 := Lib.hid (HZ.out.trans (HZ3.out.mono hbs))
              clear hi hz0 hz1 hz2 hcon hall hown hc hid hlen
              go_wp2_with (refine wpList_append_con (t := 38) (T := 46) (m := testsK.size) (B := X8.heap.size) Tryd.underlying38 HI.out HZ0.out HZ1.out HZ2.out rfl (by decide) (by decide) rfl (.tmp 64) (.tmp 66) rfl _ css [.slice la k3 lc] rfl (HCON.out.of_block (fun k hk => Below.heap_alloc _ _ _ (by have := HOW.out k hk; omega))) wr.heap.size rfl (Blk.new wr 46 [.slice la k3 lc]) (testsK.len HC.out) (testsK.one HC.out) HXL.out (by rw [World.size_alloc]; omega) ?_; intro v' W4 hcon' hg hat hone; have BN := Lib.hid (building_snoc HALL.out HC.out hbs HOW.out hcon' hg hat); have SN := Lib.hid ((HS6.out.alloc (by omega) (.cells ([.slice la k3 lc] : List Value).toArray 46)).grown hg (by rw [World.size_alloc]; omega) (fun q hq => (own_lt HCON.out.own hq).1)); clear hcon' hg hat)
              refine ⟨⟨k2 + 1, by go_num, by omega, SN, Lib.hid (by rw [take_snoc _ HLL.out]; exact BN.out)⟩, ?_⟩
              simp [intOf]; omega
        · obtain rfl : k2 = m := by omega
          have hlen : (x.conds.take k2).map (List.map (TestP.at_ fun p => p + d)) = x.conds.map (List.map (TestP.at_ fun p => p + d)) := by rw [List.take_of_length_le (by have := HM.out; omega)]
          have f9 := V9.out.free
          obtain ⟨oa, oc, rfl⟩ := HBO.out.len
          have hl1 : ((xs.take k).map (ItemP.moved d)).length = k := take_length_map _ (by have := HXN.out; omega)
          rw [hl1] at HBO HV5
          clear hl1
          go_upto_region 20 with fail
          have V10 : Hid (Blk (wr.setCell ⟨wo.heap.size, 2, none⟩ (.slice wa2 k2 wc2)) wo.heap.size 42 [.int .i64 (x.kind : Nat), .string ⟨x.name.toArray⟩, .slice wa2 k2 wc2, .int .i64 (x.head.n : Nat), .int .i64 (x.head.rn : Nat), .int .i64 (x.head.rd : Nat), .int .i64 (x.head.sn : Nat), .int .i64 (x.head.sd : Nat), .int .i64 (p : Nat)]) := Lib.hid (V9.out.set 2 (.slice wa2 k2 wc2))
          have hid := HB2.out.done (F' := fun q => X8.heap.size ≤ q) (fun q hq _ => hq.1) (fun q hq => hq)
          rw [hlen] at hid
          have hid2 := hid.kept (W' := wr.setCell ⟨wo.heap.size, 2, none⟩ (.slice wa2 k2 wc2)) (fun q hq _ => Below.heap_setCell _ _ _ _ (by have h1 : X8.heap.size ≤ q := hq; show q ≠ wo.heap.size; omega))
          have hT10 : Below wo.heap.size wo (wr.setCell ⟨wo.heap.size, 2, none⟩ (.slice wa2 k2 wc2)) := (HS8.out.trans (HZ.out.mono HS8.out.size)).setCell (p := ⟨wo.heap.size, 2, none⟩) (Nat.le_refl _) _
          generalize wr.setCell ⟨wo.heap.size, 2, none⟩ (.slice wa2 k2 wc2) = X9 at *
          have B6 := Lib.hid (HBO.out.kept (fun j hj => hT10.block j (HBO.out.lt hj).2) (fun j _ hlt => hT10.block j hlt) (fun _ h _ => h))
          have v5 := HV5.out.below hT10
          have hb9 := hT10.size
          have hc : itemK.is X9 (fun q => wo.heap.size ≤ q) [.int .i64 (x.kind : Nat), .string ⟨x.name.toArray⟩, .slice wa2 k2 wc2, .int .i64 (x.head.n : Nat), .int .i64 (x.head.rn : Nat), .int .i64 (x.head.rd : Nat), .int .i64 (x.head.sn : Nat), .int .i64 (x.head.sd : Nat), .int .i64 (p : Nat)] (x.moved d) := by
            have := HP.out
            subst this
            exact ⟨_, rfl, hid2.mono (fun q hq _ => by have h1 : X8.heap.size ≤ q := hq; show wo.heap.size ≤ q; omega)⟩
          obtain ⟨i0, hi, hz0, hz1, hz2⟩ := info_parts' moved_item_info
          obtain ⟨css, hcon, hall⟩ := B6.out
          have hown : ∀ q, (Value.slice oa k oc).ownBlock = some q → q < wo.heap.size := fun q hq => (HBO.out.lt hq).2
          have hne : ∀ q, (Value.slice oa k oc).ownBlock = some q → q ≠ w.heap.size + 1 + 1 := fun q hq => by have := (HBO.out.lt hq).1; omega
          have KO := Lib.hid (HK.out.trans (Kp.of_below (E := onlyB (w.heap.size + 1 + 1)) hT10))
          have HI := Lib.hid hi; have HZ0 := Lib.hid hz0; have HZ1 := Lib.hid hz1; have HZ2 := Lib.hid hz2
          have HCON := Lib.hid hcon; have HALL := Lib.hid hall; have HOW := Lib.hid hown; have HC := Lib.hid hc; have HNE := Lib.hid hne; have V5' := Lib.hid v5
          have HXL : Hid (css.length + 1 ≤ 1000000) := Lib.hid (by rw [All2.length HALL.out, take_length_map _ (by have := HXN.out; omega)]; omega)
          have e0 := V10.out.cell (i := 0) rfl
          have e1 := V10.out.cell (i := 1) rfl
          have e2 := V10.out.cell (i := 2) rfl
          have e3 := V10.out.cell (i := 3) rfl
          have e4 := V10.out.cell (i := 4) rfl
          have e5 := V10.out.cell (i := 5) rfl
          have e6 := V10.out.cell (i := 6) rfl
          have e7 := V10.out.cell (i := 7) rfl
          have e8 := V10.out.cell (i := 8) rfl
          have z0 := V5'.out.cell (i := 0) rfl
          clear hi hz0 hz1 hz2 hcon hall hown hc hne v5 hT10 y2 f9 hid hid2 hlen
          go_wp2_with (refine wpList_append_con (t := 23) (T := 42) (m := itemK.size) (B := W.heap.size) Tryd.underlying23 HI.out HZ0.out HZ1.out HZ2.out rfl (by decide) (by decide) rfl (.tmp 71) (.tmp 73) rfl _ css [.int .i64 (x.kind : Nat), .string ⟨x.name.toArray⟩, .slice wa2 k2 wc2, .int .i64 (x.head.n : Nat), .int .i64 (x.head.rn : Nat), .int .i64 (x.head.rd : Nat), .int .i64 (x.head.sn : Nat), .int .i64 (x.head.sd : Nat), .int .i64 (p : Nat)] rfl (HCON.out.of_block (fun k hk => Below.heap_alloc _ _ _ (by have := HOW.out k hk; omega))) X9.heap.size rfl (Blk.new X9 42 [.int .i64 (x.kind : Nat), .string ⟨x.name.toArray⟩, .slice wa2 k2 wc2, .int .i64 (x.head.n : Nat), .int .i64 (x.head.rn : Nat), .int .i64 (x.head.rd : Nat), .int .i64 (x.head.sn : Nat), .int .i64 (x.head.sd : Nat), .int .i64 (p : Nat)]) (itemK.len HC.out) (itemK.one HC.out) HXL.out (by rw [World.size_alloc]; omega) ?_; intro v' W4 hcon' hg hat hone; have bn := building_snoc HALL.out HC.out hws HOW.out hcon' hg hat; have KN := Lib.hid ((KO.out.alloc (.cells ([.int .i64 (x.kind : Nat), .string ⟨x.name.toArray⟩, .slice wa2 k2 wc2, .int .i64 (x.head.n : Nat), .int .i64 (x.head.rn : Nat), .int .i64 (x.head.rd : Nat), .int .i64 (x.head.sn : Nat), .int .i64 (x.head.sd : Nat), .int .i64 (p : Nat)] : List Value).toArray 42)).grown hg (fun k hk => Or.inr (own_lt HCON.out.own hk).1)); have V5N := Lib.hid ((hg.block (w.heap.size + 1 + 1) (by rw [World.size_alloc]; omega) (fun h => HNE.out _ h.symm rfl)).trans (V5'.out.alloc (.cells ([.int .i64 (x.kind : Nat), .string ⟨x.name.toArray⟩, .slice wa2 k2 wc2, .int .i64 (x.head.n : Nat), .int .i64 (x.head.rn : Nat), .int .i64 (x.head.rd : Nat), .int .i64 (x.head.sn : Nat), .int .i64 (x.head.sd : Nat), .int .i64 (p : Nat)] : List Value).toArray 42))); obtain ⟨pa', pc', rfl⟩ := bn.len; have hle : ((xs.take k).map (ItemP.moved d) ++ [x.moved d]).length = k + 1 := (by rw [List.length_append, take_length_map _ (by have := HXN.out; omega)]; rfl); rw [hle] at bn ⊢; clear hle; have BN := Lib.hid bn; have V5M : Hid (Blk W4 (w.heap.size + 1 + 1) 25 [.slice oa k oc]) := V5N; have z1 := V5M.out.cell (i := 0) rfl; have zf := V5M.out.free; clear hcon' hg hat bn V5N z0 e0 e1 e2 e3 e4 e5 e6 e7 e8)
          refine ⟨⟨k + 1, _, by go_num, by omega, Lib.hid (KN.out.setOld (w.heap.size + 1 + 1) 0 rfl _), Lib.hid (V5M.out.set 0 _), Lib.hid ?_⟩, ?_⟩
          · rw [take_snoc _ HX.out]
            exact BN.out.kept (W' := W4.setCell ⟨w.heap.size + 1 + 1, 0, none⟩ (.slice pa' (k + 1) pc')) (fun j hj => Below.heap_setCell _ _ _ _ (by have := (BN.out.lt hj).1; show j ≠ w.heap.size + 1 + 1; omega)) (fun j hj _ => Below.heap_setCell _ _ _ _ (by have := hj.1; show j ≠ w.heap.size + 1 + 1; omega)) (fun _ h _ => h)
          · simp [intOf]; omega
    · obtain rfl : k = n := by omega
      have hlen : (xs.take k).map (ItemP.moved d) = xs.map (ItemP.moved d) := by rw [List.take_of_length_le (by have := HXN.out; omega)]
      obtain ⟨oa, oc, rfl⟩ := HBO.out.len
      have hl1 : ((xs.take k).map (ItemP.moved d)).length = k := take_length_map _ (by have := HXN.out; omega)
      rw [hl1] at HBO HV5
      clear hl1
      have hid := HBO.out.done (F' := fun q => W.heap.size ≤ q) (fun q hq _ => hq.1) (fun q hq => hq)
      rw [hlen] at hid
      have R4 := Lib.hid (X4.out.kept HK.out (fun h => by have : w.heap.size + 1 = w.heap.size + 1 + 1 := h; omega))
      have z0 := R4.out.cell (i := 0) rfl
      have zf := R4.out.free
      have z5 := HV5.out.cell (i := 0) rfl
      have HID := Lib.hid hid; have HBW := Lib.hid hbw
      clear hid hbw hlen
      go_wp2
      rw [setCells_one]
      have kr := Kp.setCells (E := fun q => q = w.heap.size + 1) (p := w.heap.size + 1) (Or.inl rfl) [.slice oa k oc] 0 wr (Kp.refl _ _)
      refine bodyPost_ret (results_cell_mid rfl _ _ (w.heap.size + 1) [.slice oa k oc] _ rfl (R4.out.whole (vs := [.slice oa k oc]) rfl).range Tryd.underlying25 rfl (by kernel_rfl)) rfl ⟨⟨_, rfl, ?_⟩, below_setCells (by omega) [.slice oa k oc] 0 _ HBW.out⟩
      exact (HID.out.kept (fun q hq hlt => kr.block q hlt (fun e => by have h1 : W.heap.size ≤ q := hq; have h2 : q = w.heap.size + 1 := e; omega))).mono (fun q hq _ => by have h1 : W.heap.size ≤ q := hq; show w.heap.size ≤ q; omega)
end Go.Proofs.YtllhonjhjhajjaaDoor
