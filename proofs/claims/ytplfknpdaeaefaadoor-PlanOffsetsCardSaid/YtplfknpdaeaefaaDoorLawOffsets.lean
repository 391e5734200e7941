/-
  The law PlanOffsets: its walk.
-/
import Derived.Test.YtplfknpdaeaefaaDoorHead6
namespace Go.Proofs.YtplfknpdaeaefaaDoor
open Go.RowKit Go.Sort Go.Shelf Foyer.Plan

set_option maxRecDepth 100000 in
theorem stands_any (t : ByteArray) (ht : t.size ≤ 8000) (s : List UInt8) (p q : Nat) (hs : StandsAt t.data.toList s p) (hq : q ≤ p) (w : World) :
    Calls Tryd.prog 13 #[.string t, .string ⟨s.toArray⟩, .int .i64 (p : Nat), .int .i64 (q : Nat)] w fun e w' => e = .returned (.bool true) ∧ w' = w := by
  obtain ⟨h1, h2⟩ := hs
  rw [size_toList] at h1
  obtain ⟨l, hx, hl⟩ := part_list t p (p + s.length)
  rw [hl, h2] at hx
  have hz : (⟨s.toArray⟩ : ByteArray).size = s.length := size_of_list s
  have d1 : decide ((q : Int) ≤ (p : Int)) = true := by simp; omega
  have d2 : decide ((p : Int) ≤ (t.size : Int) - (s.length : Int)) = true := by simp; omega
  have b1 : (p : Int) ≤ (p : Int) + (s.length : Int) := by omega
  have b2 : (p : Int) + (s.length : Int) ≤ (t.size : Int) := by omega
  have b3 : p ≤ p + s.length := by omega
  have b4 : p + s.length ≤ t.size := h1
  have e1 : (s == s) = true := by simp
  clear h2 hl
  go_enter Tryd.func13, Tryd.ntmps13
  go_wp2
  exact bodyPost_ret (results_tmp rfl _ _ _) rfl ⟨rfl, rfl⟩
theorem stands_le {l : List UInt8} {s : List UInt8} {p n : Nat} (h : StandsAt l s p) (hn : l.length ≤ n) : p ≤ n := by have := h.1; omega
theorem drop_one {α : Type} {xs : List α} {k : Nat} {x : α} (h : xs[k]? = some x) : xs.drop k = x :: xs.drop (k + 1) := by
  obtain ⟨hk, rfl⟩ := List.getElem?_eq_some_iff.1 h
  exact List.drop_eq_getElem_cons hk
theorem IsList.bound {α : Type} {K : Kind α} {W : World} {F : Nat → Prop} {T : TypeId} {v : Value} {xs : List α} (h : IsList K W F T v xs) : xs.length ≤ 9223372036854775807 := by
  obtain ⟨css, h1, h2, h3⟩ := h
  have hl := All2.length h3
  rcases h1.form with ⟨rfl, hn⟩ | ⟨g, cap, cur, rfl, hB, hg, hh, hcap, hm, hcell⟩
  · rw [hn] at hl; rw [← hl]; simp
  · unfold maxLen at hm; omega
set_option maxRecDepth 100000 in
set_option maxHeartbeats 8000000 in
theorem offsets_ok (t : ByteArray) (w : World) (ht : t.size ≤ 8000) (x : HallP) (O : Int) (hp : parseAll t.data.toList = (x, 0, O)) :
    Calls Tryd.prog 5 #[.string t] w fun e w' => e = .returned (.bool true) ∧ Below w.heap.size w w' := by
  have HS : Hid (Since w w) := Below.refl _ _
  have hd : decide ((8000 : Int) < (t.size : Int)) = false := by simp; omega
  obtain ⟨hi, hch⟩ := offsets hp
  have HP := Lib.hid (fun w => plan_s t (by omega) x 0 O hp w)
  have HST := Lib.hid (fun s p q hs hq w => stands_any t ht s p q hs hq w)
  have HLE := Lib.hid (fun s p (h : StandsAt t.data.toList s p) => stands_le h (n := 8000) (by rw [size_toList]; exact ht))
  have HCH := Lib.hid hch
  clear hp hch ht
  go_enter Tryd.func5, Tryd.ntmps5
  go_wp2_with fail
  refine (head_any _).mono ?_; rintro e w1 ⟨rfl, hb1⟩
  have HS1 := Lib.hid (HS.out.call hb1); clear hb1
  go_wp2_with fail
  refine (HP.out _).mono ?_; rintro e w2 ⟨v1, n, v3, rfl, hl, hb2⟩
  obtain ⟨vv, vc, hv⟩ := hl.len
  injection hv with hv1 hv2 hv3
  have hn := hv2.symm
  have hn9 := hl.bound
  rw [hn] at hn9
  clear hv1 hv2 hv3
  have HL := Lib.hid (hl.kept (W' := w2.alloc (.cells #[.string ⟨x.name.toArray⟩, .int .i64 (x.sx : Nat), .int .i64 (x.sy : Nat), .slice v1 n v3] 31)) (fun k _ hk => Below.heap_alloc _ _ _ hk))
  have HS2 := Lib.hid ((HS1.out.call hb2).alloc (.cells #[.string ⟨x.name.toArray⟩, .int .i64 (x.sx : Nat), .int .i64 (x.sy : Nat), .slice v1 n v3] 31))
  have HV := Lib.hid (Blk.new w2 31 [.string ⟨x.name.toArray⟩, .int .i64 (x.sx : Nat), .int .i64 (x.sy : Nat), .slice v1 n v3])
  have HN := Lib.hid hn
  clear hb2 hl hn
  go_upto_region 4 with fail
  generalize w2.alloc (.cells #[.string ⟨x.name.toArray⟩, .int .i64 (x.sx : Nat), .int .i64 (x.sy : Nat), .slice v1 n v3] 31) = X at *
  generalize w2.heap.size = hb at *
  go_loopw [7, 8] (fun z i wr => ∃ (k lv : Nat), i = .int .i64 k ∧ k ≤ n ∧ z = .int .i64 (lv : Nat) ∧ Hid (Chain (LevelAt (StandsAt t.data.toList)) lv (x.levels.drop k) hi) ∧ Hid (Below X.heap.size X wr)) (fun _ i _ => n - (intOf i).toNat)
  case atStart => exact ⟨0, 0, rfl, Nat.zero_le _, rfl, HCH, Lib.hid (Below.refl _ _)⟩
  case round =>
    obtain ⟨k, lv, rfl, hk, rfl, HC, HB⟩ := hrel
    have hvb := HV.out.kept (E := fun _ => False) (Kp.mk HB.out.os HB.out.tape HB.out.output HB.out.size (fun q hq _ => HB.out.block q hq)) (fun h => h)
    have hv3 := hvb.cell (i := 3) rfl
    have HVB := Lib.hid hvb
    clear hvb
    by_cases hk2 : k < n
    · obtain ⟨l, hl⟩ : ∃ l, x.levels[k]? = some l := ⟨_, List.getElem?_eq_getElem (by have := HN.out; omega)⟩
      obtain ⟨g, cap, c, hv, _, _, _, hg, ⟨u1, u2, u3, u4, u5, hlv⟩, hcell⟩ := HL.out.at hl
      rw [HN.out] at hv
      injection hv with hv1 hv2 hv3'
      subst hv1 hv3'
      obtain rfl := hlv.cells
      have hbl := hlv.blocks
      have har := hlv.areas
      obtain ⟨a1, c1, rfl⟩ := hlv.blocks.len
      obtain ⟨a2, c2, rfl⟩ := hlv.areas.len
      obtain ⟨a3, n3, c3, rfl⟩ := hlv.aisles.slice
      obtain ⟨a4, n4, c4, rfl⟩ := hlv.pillars.slice
      obtain ⟨a5, n5, c5, rfl⟩ := hlv.doors.slice
      have hch := HC.out
      rw [drop_one hl] at hch
      obtain ⟨m, hm1, ⟨hle, hlt, hst, hcb, hca⟩, hrest⟩ := hch
      have hp8 := HLE.out _ _ hst
      have hcl : ∀ j u, (levelCl l (.slice a1 l.blocks.length c1) (.slice a2 l.areas.length c2) (.slice a3 n3 c3) (.slice a4 n4 c4) (.slice a5 n5 c5))[j]? = some u → wr.cell? ⟨g, k * 8 + j, none⟩ = some u := fun j u hj => by rw [HB.out.cell hg]; exact hcell j u hj
      have d0 := hcl 0 _ rfl
      have d1 := hcl 1 _ rfl
      have d2 := hcl 2 _ rfl
      have d3 := hcl 3 _ rfl
      have d4 := hcl 4 _ rfl
      have d5 := hcl 5 _ rfl
      have d6 := hcl 6 _ rfl
      have d7 := hcl 7 _ rfl
      rw [Nat.add_zero] at d0
      have hki : (0 : Int) ≤ k ∧ (k : Int) < n := by omega
      have HST1 := Lib.hid hst; have HREST := Lib.hid hrest; have HCB := Lib.hid hcb; have HCA := Lib.hid hca
      have HBL := Lib.hid (hbl.kept (W' := wr) (fun q _ hq => HB.out.block q hq)); have HAR := Lib.hid (har.kept (W' := wr) (fun q _ hq => HB.out.block q hq))
      obtain ⟨nb, hnb⟩ : ∃ nb, l.blocks.length = nb := ⟨_, rfl⟩
      obtain ⟨na, hna⟩ : ∃ na, l.areas.length = na := ⟨_, rfl⟩
      have hnb9 := hbl.bound
      have hna9 := har.bound
      rw [hnb] at hnb9
      rw [hna] at hna9
      rw [hnb] at d2 HBL
      rw [hna] at d3 HAR
      clear hcl hcell hl hst hrest hcb hca hlv hbl har
      have HNB := Lib.hid hnb; have HNA := Lib.hid hna
      clear hnb hna
      obtain ⟨lp, hlp⟩ : ∃ lp, l.pos = lp := ⟨_, rfl⟩
      rw [hlp] at hle hlt hp8 d7 HST1 HCB HCA
      clear hlp
      go_wp2_with fail
      refine (HST.out wLevel lp lv HST1.out hle _).mono ?_; rintro e wq ⟨rfl, rfl⟩
      have hY := Blk.new wr 47 [.string ⟨l.name.toArray⟩, .int .i64 (l.height : Nat), .slice a1 nb c1, .slice a2 na c2, .slice a3 n3 c3, .slice a4 n4 c4, .slice a5 n5 c5, .int .i64 (lp : Nat)]
      have HBY := Lib.hid (HB.out.alloc HB.out.size (.cells #[.string ⟨l.name.toArray⟩, .int .i64 (l.height : Nat), .slice a1 nb c1, .slice a2 na c2, .slice a3 n3 c3, .slice a4 n4 c4, .slice a5 n5 c5, .int .i64 (lp : Nat)] 47))
      have HBL2 := Lib.hid (HBL.out.kept (W' := wr.alloc (.cells #[.string ⟨l.name.toArray⟩, .int .i64 (l.height : Nat), .slice a1 nb c1, .slice a2 na c2, .slice a3 n3 c3, .slice a4 n4 c4, .slice a5 n5 c5, .int .i64 (lp : Nat)] 47)) (fun q _ hq => Below.heap_alloc _ _ _ hq)); have HAR2 := Lib.hid (HAR.out.kept (W' := wr.alloc (.cells #[.string ⟨l.name.toArray⟩, .int .i64 (l.height : Nat), .slice a1 nb c1, .slice a2 na c2, .slice a3 n3 c3, .slice a4 n4 c4, .slice a5 n5 c5, .int .i64 (lp : Nat)] 47)) (fun q _ hq => Below.heap_alloc _ _ _ hq))
      clear HBL HAR d0 d1 d2 d3 d4 d5 d6 d7
      generalize wr.alloc (.cells #[.string ⟨l.name.toArray⟩, .int .i64 (l.height : Nat), .slice a1 nb c1, .slice a2 na c2, .slice a3 n3 c3, .slice a4 n4 c4, .slice a5 n5 c5, .int .i64 (lp : Nat)] 47) = Y at *
      generalize wr.heap.size = lb at *
      have y2 := hY.cell (i := 2) rfl
      have y3 := hY.cell (i := 3) rfl
      have y7 := hY.cell (i := 7) rfl
      have HY := Lib.hid hY
      clear hY HST1 hv3
      go_wp2
      go_quiet (fail)
      go_wp2
      go_loopw [10, 12] (fun z i wr => ∃ (k2 bv : Nat), i = .int .i64 k2 ∧ k2 ≤ nb ∧ z = .int .i64 (bv : Nat) ∧ Hid (Chain (BlockAt (StandsAt t.data.toList)) bv (l.blocks.drop k2) m) ∧ Hid (Below Y.heap.size Y wr)) (fun _ i _ => nb - (intOf i).toNat)
      case atStart => exact ⟨0, lp + 1, rfl, Nat.zero_le _, by go_num, HCB, Lib.hid (below_drewN (Below.refl _ _) _)⟩
      case round =>
        clear y2 y3 y7
        obtain ⟨k2, bv, rfl, hk2b, rfl, HC2, HB2⟩ := hrel
        have hyb := HY.out.kept (E := fun _ => False) (Kp.mk HB2.out.os HB2.out.tape HB2.out.output HB2.out.size (fun q hq _ => HB2.out.block q hq)) (fun h => h)
        have y2 := hyb.cell (i := 2) rfl
        have y3 := hyb.cell (i := 3) rfl
        have y7 := hyb.cell (i := 7) rfl
        have HYB := Lib.hid hyb
        clear hyb
        by_cases hkb : k2 < nb
        · obtain ⟨b, hb⟩ : ∃ b, l.blocks[k2]? = some b := ⟨_, List.getElem?_eq_getElem (by have := HNB.out; omega)⟩
          obtain ⟨g1, cap1, cc, hv, _, _, _, hg1, ⟨vr, rfl, hrl⟩, hcell⟩ := HBL2.out.at hb
          rw [HNB.out] at hv
          injection hv with hv1 hv2 hv3'
          subst hv1 hv3'
          obtain ⟨r1, rc, rfl⟩ := hrl.len
          obtain ⟨nr, hnr⟩ : ∃ nr, b.rows.length = nr := ⟨_, rfl⟩
          have hnr9 := hrl.bound
          rw [hnr] at hnr9 hcell
          have hch := HC2.out
          rw [drop_one hb] at hch
          obtain ⟨m2, hm1, ⟨hbe, hblt, hbst, hcr⟩, hbrest⟩ := hch
          have hbp8 := HLE.out _ _ hbst
          have hcl : ∀ j u, (blockCl b (.slice r1 nr rc))[j]? = some u → wr.cell? ⟨g1, k2 * 3 + j, none⟩ = some u := fun j u hj => by rw [HB2.out.cell hg1]; exact hcell j u hj
          have d0 := hcl 0 _ rfl
          have d1 := hcl 1 _ rfl
          have d2 := hcl 2 _ rfl
          rw [Nat.add_zero] at d0
          have hki2 : (0 : Int) ≤ k2 ∧ (k2 : Int) < nb := by omega
          have HBST := Lib.hid hbst; have HBREST := Lib.hid hbrest; have HCR := Lib.hid hcr; have HNR := Lib.hid hnr
          have HRL := Lib.hid (hrl.kept (W' := wr) (fun q _ hq => HB2.out.block q hq))
          obtain ⟨bp, hbp⟩ : ∃ bp, b.pos = bp := ⟨_, rfl⟩
          rw [hnr] at HRL
          rw [hbp] at hbe hblt hbp8 d2 HBST HCR
          clear hcl hcell hb hbst hbrest hcr hnr hbp hrl
          go_wp2_with fail
          refine (HST.out wBlock bp bv HBST.out hbe _).mono ?_; rintro e wq ⟨rfl, rfl⟩
          have hZ := Blk.new wr 51 [.string ⟨b.name.toArray⟩, .slice r1 nr rc, .int .i64 (bp : Nat)]
          have HBZ := Lib.hid (HB2.out.alloc HB2.out.size (.cells #[.string ⟨b.name.toArray⟩, .slice r1 nr rc, .int .i64 (bp : Nat)] 51))
          have HRL2 := Lib.hid (HRL.out.kept (W' := wr.alloc (.cells #[.string ⟨b.name.toArray⟩, .slice r1 nr rc, .int .i64 (bp : Nat)] 51)) (fun q _ hq => Below.heap_alloc _ _ _ hq))
          have HYZ := Lib.hid (HYB.out.alloc (.cells #[.string ⟨b.name.toArray⟩, .slice r1 nr rc, .int .i64 (bp : Nat)] 51))
          clear HRL d0 d1 d2 y2 y3 y7
          generalize wr.alloc (.cells #[.string ⟨b.name.toArray⟩, .slice r1 nr rc, .int .i64 (bp : Nat)] 51) = Z at *
          generalize wr.heap.size = bb at *
          have z1 := hZ.cell (i := 1) rfl
          have z2 := hZ.cell (i := 2) rfl
          have y2 := HYZ.out.cell (i := 2) rfl
          clear hZ HBST
          go_wp2
          go_loop [14, 15] (fun z i => ∃ (k3 rv : Nat), i = .int .i64 k3 ∧ k3 ≤ nr ∧ z = .int .i64 (rv : Nat) ∧ Hid (Chain (RowAt (StandsAt t.data.toList)) rv (b.rows.drop k3) m2)) (fun _ i => nr - (intOf i).toNat)
          case atStart => exact ⟨0, bp + 1, rfl, Nat.zero_le _, by go_num, HCR⟩
          case round =>
            obtain ⟨k3, rv, rfl, hk3, rfl, HC3⟩ := hrel
            by_cases hkr : k3 < nr
            · obtain ⟨q, hq⟩ : ∃ q, b.rows[k3]? = some q := ⟨_, List.getElem?_eq_getElem (by have := HNR.out; omega)⟩
              obtain ⟨g2, cap2, dd, hv, _, _, _, hg2, ⟨vm, rfl, _⟩, hcell⟩ := HRL2.out.at hq
              rw [HNR.out] at hv
              injection hv with hv1 hv2 hv3'
              subst hv1 hv3'
              have hch := HC3.out
              rw [drop_one hq] at hch
              obtain ⟨m3, hm3, ⟨hre, hrlt, hrst⟩, hrrest⟩ := hch
              have hrp8 := HLE.out _ _ hrst
              have e7 := hcell 7 _ rfl
              rw [show rowK.size = 8 from rfl] at e7
              have hki3 : (0 : Int) ≤ k3 ∧ (k3 : Int) < nr := by omega
              have HRR := Lib.hid (chain_mono (fun _ _ _ _ h k => ⟨Nat.le_trans h k.1, k.2⟩) (show q.pos + 1 ≤ m3 by omega) hrrest)
              have HRS := Lib.hid hrst
              obtain ⟨rp, hrp⟩ : ∃ rp, q.pos = rp := ⟨_, rfl⟩
              rw [hrp] at hre hrlt hrp8 e7 HRR HRS
              clear hcell hq hrst hrrest hrp
              go_wp2_with fail
              refine (HST.out wRow rp rv HRS.out hre _).mono ?_; rintro e wq ⟨rfl, rfl⟩
              go_wp2
              refine ⟨⟨k3 + 1, rp + 1, by go_num, by omega, by go_num, HRR⟩, ?_⟩
              simp [intOf]; omega
            · obtain rfl : k3 = nr := by omega
              have hfin : rv ≤ m2 := chain_le HC3.out
              have HRR := Lib.hid (chain_mono (fun _ _ _ _ h k => ⟨Nat.le_trans h k.1, k.2⟩) hfin HBREST.out)
              go_wp2
              refine ⟨⟨k2 + 1, rv, by go_num, by omega, by go_num, HRR, HBZ⟩, ?_⟩
              simp [intOf]; omega
        · obtain rfl : k2 = nb := by omega
          have hbfin : bv ≤ m := chain_le HC2.out
          have HAR3 := Lib.hid (HAR2.out.kept (W' := wr) (fun q _ hq => HB2.out.block q hq))
          go_wp2
          go_loop [11, 16] (fun z i => ∃ (k4 av : Nat), i = .int .i64 k4 ∧ k4 ≤ na ∧ z = .int .i64 (av : Nat) ∧ Hid (Chain (AreaAt (StandsAt t.data.toList)) av (l.areas.drop k4) m)) (fun _ i => na - (intOf i).toNat)
          case atStart => exact ⟨0, lp + 1, rfl, Nat.zero_le _, by go_num, HCA⟩
          case round =>
            obtain ⟨k4, av, rfl, hk4, rfl, HC4⟩ := hrel
            by_cases hka : k4 < na
            · obtain ⟨q, hq⟩ : ∃ q, l.areas[k4]? = some q := ⟨_, List.getElem?_eq_getElem (by have := HNA.out; omega)⟩
              obtain ⟨g2, cap2, dd, hv, _, _, _, hg2, rfl, hcell⟩ := HAR3.out.at hq
              rw [HNA.out] at hv
              injection hv with hv1 hv2 hv3'
              subst hv1 hv3'
              have hch := HC4.out
              rw [drop_one hq] at hch
              obtain ⟨m3, hm3, ⟨hre, hrlt, hrst⟩, hrrest⟩ := hch
              have hrp8 := HLE.out _ _ hrst
              have e6 := hcell 6 _ rfl
              rw [show areaK.size = 7 from rfl] at e6
              have hki4 : (0 : Int) ≤ k4 ∧ (k4 : Int) < na := by omega
              have HRR := Lib.hid (chain_mono (fun _ _ _ _ h k => ⟨Nat.le_trans h k.1, k.2⟩) (show q.pos + 1 ≤ m3 by omega) hrrest)
              have HRS := Lib.hid hrst
              obtain ⟨rp, hrp⟩ : ∃ rp, q.pos = rp := ⟨_, rfl⟩
              rw [hrp] at hre hrlt hrp8 e6 HRR HRS
              clear hcell hq hrst hrrest hrp
              go_wp2_with fail
              refine (HST.out wArea rp av HRS.out hre _).mono ?_; rintro e wq ⟨rfl, rfl⟩
              go_wp2
              refine ⟨⟨k4 + 1, rp + 1, by go_num, by omega, by go_num, HRR⟩, ?_⟩
              simp [intOf]; omega
            · obtain rfl : k4 = na := by omega
              have hafin : av ≤ m := chain_le HC4.out
              have HRR := Lib.hid (chain_mono (fun _ _ _ _ h k => ⟨Nat.le_trans h k.1, k.2⟩) (show max bv av ≤ m by omega) HREST.out)
              have HB5 := Lib.hid (HBY.out.trans (HB2.out.mono HBY.out.size))
              have hmx : max (bv : Int) (av : Int) = ((max bv av : Nat) : Int) := by omega
              have HMX := Lib.hid hmx
              clear hmx
              go_wp2
              refine ⟨⟨k + 1, max bv av, by go_num, by omega, ?_, HRR, HB5⟩, ?_⟩
              · first | rw [HMX.out] | (simp only [Value.int.injEq, true_and]; omega)
              · simp [intOf]; omega
    · obtain rfl : k = n := by omega
      go_wp2
      go_ret
      exact ⟨rfl, HS2.out.trans (HB.out.mono HS2.out.size)⟩
set_option maxRecDepth 100000 in
set_option maxHeartbeats 2000000 in
theorem offsets_long (t : ByteArray) (w : World) (h : 8000 < t.size) :
    Calls Tryd.prog 5 #[.string t] w fun e w' => e = .returned (.bool true) ∧ Below w.heap.size w w' := by
  have HS : Hid (Since w w) := Below.refl _ _
  have hd : decide ((8000 : Int) < (t.size : Int)) = true := by simp; omega
  clear h
  go_enter Tryd.func5, Tryd.ntmps5
  go_wp2_with fail
  refine (head_any _).mono ?_; rintro e w1 ⟨rfl, hb1⟩
  have HS1 := Lib.hid (HS.out.call hb1); clear hb1
  go_wp2
  go_ret
  exact ⟨rfl, HS1.out⟩
set_option maxRecDepth 100000 in
set_option maxHeartbeats 2000000 in
theorem offsets_bad (t : ByteArray) (w : World) (ht : t.size ≤ 8000) (x : HallP) (E : Nat) (O : Int) (hp : parseAll t.data.toList = (x, E, O)) (hE : E ≠ 0) :
    Calls Tryd.prog 5 #[.string t] w fun e w' => e = .returned (.bool true) ∧ Below w.heap.size w w' := by
  have HS : Hid (Since w w) := Below.refl _ _
  have hd : decide ((8000 : Int) < (t.size : Int)) = false := by simp; omega
  obtain rfl := noHall_of hp hE
  have hne : (((E : Nat) : Int) != 0) = true := by simp [hE]
  have HP := Lib.hid (fun w => plan_none t (by omega) [] 0 0 E O hp w)
  clear hp ht hE
  go_enter Tryd.func5, Tryd.ntmps5
  go_wp2_with fail
  refine (head_any _).mono ?_; rintro e w1 ⟨rfl, hb1⟩
  have HS1 := Lib.hid (HS.out.call hb1); clear hb1
  go_wp2_with fail
  refine (HP.out _).mono ?_; rintro e w2 ⟨v1, v3, rfl, hb2⟩
  have HS2 := Lib.hid ((HS1.out.call hb2).alloc (.cells #[.string ⟨#[]⟩, .int .i64 0, .int .i64 0, .slice v1 0 v3] 31)); clear hb2
  go_wp2
  go_ret
  exact ⟨rfl, HS2.out⟩
theorem offsets_walk (t : ByteArray) (w : World) (_ : t.size ≤ maxLen) (_ : Env w) :
    Calls Tryd.prog 5 #[.string t] w fun e w' => e = .returned (.bool true) ∧ Below w.heap.size w w' := by
  by_cases h : 8000 < t.size
  · exact offsets_long t w h
  · by_cases hE : (parseAll t.data.toList).2.1 = 0
    · exact offsets_ok t w (by omega) _ _ (by rw [← hE])
    · exact offsets_bad t w (by omega) _ _ _ rfl hE
end Go.Proofs.YtplfknpdaeaefaaDoor
