/-
  The document's own Split: it returns what the program's does.
-/
import Derived.Test.YtdjilieadhnhcaaDoorRefWeights
import Derived.Test.YtdjilieadhnhcaaDoorMathPick
namespace Go.Proofs.YtdjilieadhnhcaaDoor
open Go.RowKit Go.Sort Go.Shelf Foyer.Money

theorem infoB : (Tryd.prog.info? 4).map (fun i => (i.zero, i.size, i.bytes)) = some (some (.bool false), 1, 1) := by kernel_rfl

/-- The places that are done, when those of a rank below t are. -/
def doneRow (rs : List Int) (n t : Nat) : List Value := (List.range n).map fun j => Value.bool (decide (rank rs j < t))
theorem doneRow_zero (rs : List Int) (n : Nat) : List.replicate n (Value.bool false) = doneRow rs n 0 := by
  apply List.ext_getElem
  · simp [doneRow]
  · intro i h1 h2; simp [doneRow]
theorem doneRow_get (rs : List Int) (n t j : Nat) (h : j < n) : (doneRow rs n t)[j]? = some (.bool (decide (rank rs j < t))) := by
  simp [doneRow, h]
theorem doneRow_set (rs : List Int) (t b : Nat) (hb : b < rs.length) (ht : rank rs b = t) : (doneRow rs rs.length t).set b (.bool true) = doneRow rs rs.length (t + 1) := by
  apply List.ext_getElem
  · simp [doneRow]
  · intro i h1 h2
    simp only [doneRow, List.getElem_set, List.getElem_map, List.getElem_range]
    have hi : i < rs.length := by simpa [doneRow] using h2
    by_cases e : b = i
    · subst e; simp [ht]
    · rw [if_neg e]
      congr 1
      rw [decide_eq_decide]
      constructor
      · intro h; omega
      · intro h
        apply Classical.byContradiction
        intro hn
        exact e (rank_inj hb hi (by omega))
/-- The parts, when the places of a rank below t have got a cent. -/
def rankedRow (f : Nat → Int) (rs : List Int) (n t : Nat) : List Value := (List.range n).map fun j => Value.int .i64 (f j + if rank rs j < t then 1 else 0)
theorem rankedRow_get (f : Nat → Int) (rs : List Int) (n t j : Nat) (h : j < n) : (rankedRow f rs n t)[j]? = some (.int .i64 (f j + if rank rs j < t then 1 else 0)) := by
  simp [rankedRow, h]
theorem rankedRow_set (f : Nat → Int) (rs : List Int) (t b : Nat) (hb : b < rs.length) (ht : rank rs b = t) : (rankedRow f rs rs.length t).set b (.int .i64 (f b + 1)) = rankedRow f rs rs.length (t + 1) := by
  apply List.ext_getElem
  · simp [rankedRow]
  · intro i h1 h2
    simp only [rankedRow, List.getElem_set, List.getElem_map, List.getElem_range]
    have hi : i < rs.length := by simpa [rankedRow] using h2
    by_cases e : b = i
    · subst e; rw [if_pos rfl, if_pos (by omega)]
    · rw [if_neg e]
      by_cases h : rank rs i < t
      · rw [if_pos h, if_pos (by omega)]
      · have : ¬ rank rs i < t + 1 := by
          intro h'
          exact e (rank_inj hb hi (by omega))
        rw [if_neg h, if_neg this]

set_option maxRecDepth 100000 in
theorem rsplit_bad (n : Int) (ws : List Int) (p : Option Addr) (cap : Nat) (w : World) (h : (valid n && vWeights ws) = false) (hr : Rd w p ws) (hl : ws.length ≤ 1000) :
    Calls Tryd.prog 16 #[.int .i64 n, .slice p ws.length cap] w fun e w' => e = .returned (.tuple #[.slice none 0 0, .int .i64 1]) ∧ w = w' := by
  cases hv : valid n
  · clear h
    go_enter Tryd.func16, Tryd.ntmps16
    go_wp2_with fail
    refine (rvalid_no _ _ hv).mono ?_; rintro e w' ⟨rfl, rfl⟩
    go_wp2
    go_ret2
    exact ⟨rfl, rfl⟩
  · have hw : vWeights ws = false := by simpa [hv] using h
    clear h
    have HW := Lib.hid hw; clear hw
    have Hr := Lib.hid hr; clear hr
    go_enter Tryd.func16, Tryd.ntmps16
    go_wp2_with fail
    refine (rvalid_yes _ _ hv).mono ?_; rintro e w' ⟨rfl, rfl⟩
    go_wp2_with fail
    refine (rweights_any ws p cap _ Hr.out hl).mono ?_; rintro e w' ⟨rfl, rfl⟩
    rw [HW.out]
    go_wp2
    go_ret2
    exact ⟨rfl, rfl⟩

set_option maxRecDepth 100000 in
set_option maxHeartbeats 4000000 in
theorem rsplit_plain (n : Int) (ws : List Int) (p : Option Addr) (cap : Nat) (w : World) (hn : 0 ≤ n) (h : (valid n && vWeights ws) = true) (hr : Rd w p ws) (hl : ws.length ≤ 1000) :
    Calls Tryd.prog 16 #[.int .i64 n, .slice p ws.length cap] w fun e w' => SplitDone n ws w e w' := by
  obtain ⟨i0, hi, hz0, hz1, hz2⟩ := info_parts info3
  obtain ⟨j0, ji, jz0, jz1, jz2⟩ := info_parts infoB
  obtain ⟨hv, hw⟩ := (Bool.and_eq_true _ _).mp h
  obtain ⟨v1, v2⟩ := valid_iff.1 hv
  obtain ⟨hw1, hW⟩ := vWeights_iff.1 hw
  have hl1 := vWeights_length hw
  have hwx : ∀ i, i < ws.length → 0 ≤ ws.getD i 0 ∧ ws.getD i 0 ≤ 1000000000 := fun i hi => hw1 _ (by rw [List.getD_eq_getElem?_getD, List.getElem?_eq_getElem hi]; exact List.getElem_mem _)
  have hWb : ws.sum ≤ 10000000000000 := by
    have := (sum_take_bd ws (fun z hz => by have := hw1 z hz; omega) ws.length (Nat.le_refl _)).2
    rw [List.take_length] at this; omega
  have hl0 := left_nonneg (n := n) hW
  have hl2 := left_le (n := n) hW
  have hbb := bases_bd (n := n) hn (fun z hz => (hw1 z hz).1) hW
  have hsp : splitS n ws = divS n ws := by
    have e1 : size n = n := by unfold size; rw [if_neg (by omega)]
    have e2 : sgn n = 1 := by unfold sgn; rw [if_neg (by omega)]
    unfold splitS; rw [e1, e2]; simp
  rcases hr with e | ⟨b, off, rfl, hb, hc⟩
  · rw [e] at hl1; simp at hl1
  have HR : Hid (Rd w (some ⟨b, off, none⟩) ws) := Or.inr ⟨b, off, rfl, hb, hc⟩
  have hsb := fun k hk => sum_take_bd ws (fun z hz => by have := hw1 z hz; omega) k hk
  have hss := fun k hk => sum_take_succ ws k hk
  have hst : (ws.take ws.length).sum = ws.sum := by rw [List.take_length]
  have Hv := Lib.hid hv; have Hw := Lib.hid hw; have Hw1 := Lib.hid hw1; have Hwx := Lib.hid hwx; have Hc := Lib.hid hc; have Hsb := Lib.hid hsb; have Hss := Lib.hid hss; have Hst := Lib.hid hst; have Hl0 := Lib.hid hl0; have Hl2 := Lib.hid hl2; have Hbb := Lib.hid hbb; have Hsp := Lib.hid hsp
  clear hv hw hw1 hwx hc hsb hss hst hl0 hl2 hbb hsp h
  generalize hWe : ws.sum = W at *
  have HW := Lib.hid hWe; clear hWe
  go_enter Tryd.func16, Tryd.ntmps16
  go_wp2_with fail
  refine (rvalid_yes _ _ Hv.out).mono ?_; rintro e w' ⟨rfl, rfl⟩
  go_wp2_with fail
  refine (rweights_any ws _ cap _ HR.out hl).mono ?_; rintro e w' ⟨rfl, rfl⟩
  rw [Hw.out]
  go_wp2
  go_loop [9, 10] (fun t i => ∃ k : Nat, k ≤ ws.length ∧ i = .int .i64 k ∧ t = .int .i64 (ws.take k).sum) (fun _ i => ws.length - (intOf i).toNat)
  case atStart => exact ⟨0, Nat.zero_le _, rfl, rfl⟩
  case round =>
    obtain ⟨k, hk, rfl, rfl⟩ := hrel
    by_cases hlt : k < ws.length
    · have hs := Hss.out k hlt
      have Hs := Lib.hid hs; clear hs
      have hbk := Hsb.out k hk
      have hbk' := Hsb.out (k + 1) hlt
      rw [Hs.out] at hbk'
      have hck := Hc.out k hlt
      generalize ws.getD k 0 = z at *
      go_wp2
      go_round
      case rel => exact ⟨k + 1, by omega, by go_num, by rw [Hs.out]⟩
      case measure => simp [intOf]; omega
    · have e : k = ws.length := by omega
      subst e
      rw [Hst.out]
      go_wp2_with (at_make; refine wpList_make_full _ rfl _ _ 24 rfl w.heap.size 3 i0 (.int .i64 0) 1 Tryd.underlying24 hi hz0 hz1 .i64 .i64 _ _ ws.length rfl rfl rfl rfl ?c1 ?c2 ?c3 ?_)
      case c1 => omega
      case c2 => unfold maxLen; omega
      intro w1 hown1 hgrow1
      rw [toList_madeCells_one, laidTo_zero (fun j => (bases n W ws).getD j 0)] at hown1
      have hlt1 : w.heap.size < w1.heap.size := (hown1.lt _ rfl).2
      have hbel : RowKit.Below w.heap.size w w1 := (RowKit.Below.refl w.heap.size w).grown hgrow1 (Nat.le_refl _) (by simp)
      have HB := Lib.hid hbel; clear hbel hgrow1
      have hWz : (W == 0) = false := by rw [beq_eq_false_iff_ne]; omega
      have helb := bases_length n W ws
      have hBS := fun k (hk : k < ws.length) => sum_take_bases (bases n W ws) k (by rw [helb]; exact hk)
      have hBL := fun k => sum_take_le (zs := bases n W ws) (by rw [← HW.out]; exact fun z hz => (Hbb.out z (by rw [← HW.out]; exact hz)).1) k
      have hBt : (bases n W ws).sum ≤ n := by have := Hl0.out; unfold left at this; omega
      have HBS := Lib.hid hBS; have HBL := Lib.hid hBL; have HBt := Lib.hid hBt
      clear hBS hBL hBt helb
      go_wp2
      go_loopw [12, 13] (fun t i wr => ∃ k : Nat, k ≤ ws.length ∧ i = .int .i64 k ∧ t = .int .i64 (n - ((bases n W ws).take k).sum) ∧ wr.ownsRow w.heap.size 3 1 (.slice (some ⟨w.heap.size, 0, none⟩) ws.length ws.length) ws.length (laidTo (fun j => (bases n W ws).getD j 0) ws.length k) ∧ Hid (RowKit.Below w.heap.size w wr)) (fun _ i _ => ws.length - (intOf i).toNat)
      case atStart => exact ⟨0, Nat.zero_le _, rfl, by simp, hown1, HB⟩
      case round =>
        clear hown1 HB
        obtain ⟨k, hk, rfl, rfl, hown, HB⟩ := hrel
        by_cases hlt : k < ws.length
        · have hcw : wr.cell? ⟨b, off + k, none⟩ = some (.int .i64 (ws.getD k 0)) := by rw [HB.out.cell hb]; exact Hc.out k hlt
          obtain ⟨hx0, hx1⟩ := Hwx.out k hlt
          have eb : (bases n W ws).getD k 0 = n * ws.getD k 0 / W := bases_get n W ws k hlt
          have hs := HBS.out k hlt
          obtain ⟨t0, t1⟩ := HBL.out k
          obtain ⟨t2, t3⟩ := HBL.out (k + 1)
          have hBt := HBt.out
          rw [hs] at t2 t3
          rw [eb] at hs t2 t3
          have Hs := Lib.hid hs; clear hs
          have hc1 := (hown.cellAt k (by omega)).trans (laidTo_get (fun j => (bases n W ws).getD j 0) ws.length k k hlt)
          rw [if_neg (by omega)] at hc1
          have hf1 := hown.frozenAt k
          have hst := hown.stored k (.int .i64 (n * ws.getD k 0 / W))
          have h1 : (laidTo (fun j => (bases n W ws).getD j 0) ws.length k).set k (.int .i64 (n * ws.getD k 0 / W)) = laidTo (fun j => (bases n W ws).getD j 0) ws.length (k + 1) := by
            rw [← eb]; exact laidTo_set _ _ _
          rw [h1] at hst
          have Hst := Lib.hid hst.1
          clear h1 hst hown eb
          generalize ws.getD k 0 = x at *
          have hm0 : 0 ≤ n * x := Int.mul_nonneg hn hx0
          have hm1 : n * x ≤ 1000000000000000000 := by
            have := Int.mul_le_mul v2 hx1 hx0 (by omega)
            omega
          have hq0 : 0 ≤ n * x / W := Int.ediv_nonneg hm0 (by omega)
          have hq1 : n * x / W ≤ n * x := Int.ediv_le_self _ hm0
          generalize hsk : ((bases n W ws).take k).sum = S at *
          have Hsk := Lib.hid hsk; clear hsk
          go_wp2
          go_roundw
          case rel => exact ⟨k + 1, by omega, by go_num, by rw [Hs.out]; first | rfl | go_num | (congr 1; omega), Hst.out, Lib.hid (HB.out.setCell (p := ⟨w.heap.size, k, none⟩) (Nat.le_refl _) _)⟩
          case measure => simp [intOf]; omega
        · have e : k = ws.length := by omega
          subst e
          have htk : (bases n W ws).take ws.length = bases n W ws := by rw [List.take_of_length_le (by rw [bases_length]; exact Nat.le_refl _)]
          obtain ⟨L, hL⟩ : ∃ L : Nat, n - (bases n W ws).sum = (L : Int) := Int.eq_ofNat_of_zero_le (by have := Hl0.out; unfold left at this; exact this)
          have hLl : L ≤ ws.length := by have := Hl2.out; unfold left at this; omega
          have hl3 : left n W ws = (L : Int) := by unfold left; exact hL
          rw [htk, hL]
          have h0 : laidTo (fun j => (bases n W ws).getD j 0) ws.length ws.length = rankedRow (fun j => (bases n W ws).getD j 0) (rests n W ws) ws.length 0 := by
            unfold laidTo rankedRow
            apply List.map_congr_left
            intro j hj
            rw [if_pos (List.mem_range.1 hj), if_neg (by omega), Int.add_zero]
          rw [h0] at hown
          have hrl := rests_length n W ws
          have Hrl := Lib.hid hrl; have Hl3 := Lib.hid hl3
          clear htk hL h0 hrl hl3
          go_wp2_with (at_make; refine wpList_make_full _ rfl _ _ 50 rfl w.heap.size 4 j0 (.bool false) 1 Tryd.underlying50 ji jz0 jz1 .i64 .i64 _ _ ws.length rfl rfl rfl rfl ?d1 ?d2 ?d3 ?_)
          case d1 => rw [jz2]; omega
          case d2 => unfold maxLen; omega
          case d3 => exact HB.out.size
          intro w2 hown2 hgrow2
          rw [toList_madeCells_one, doneRow_zero (rests n W ws)] at hown2
          have hown1 := hown.kept hgrow2 (Or.inr (by simp [Value.ownBlock]))
          have hlt1 : w.heap.size < wr.heap.size := (hown.lt _ rfl).2
          have hbel : RowKit.Below w.heap.size w w2 := HB.out.grown hgrow2 HB.out.size (by simp)
          have HB2 := Lib.hid hbel; clear hbel hgrow2 HB hown
          generalize wr.heap.size = g2 at *
          have hne : ¬ g2 = w.heap.size := by omega
          have hne' : ¬ w.heap.size = g2 := by omega
          go_wp2
          go_loopw [12] (fun l wr => ∃ t : Nat, t ≤ L ∧ l = .int .i64 ((L : Int) - t) ∧ wr.ownsRow w.heap.size 3 1 (.slice (some ⟨w.heap.size, 0, none⟩) ws.length ws.length) ws.length (rankedRow (fun j => (bases n W ws).getD j 0) (rests n W ws) ws.length t) ∧ wr.ownsRow w.heap.size 4 1 (.slice (some ⟨g2, 0, none⟩) ws.length ws.length) ws.length (doneRow (rests n W ws) ws.length t) ∧ Hid (RowKit.Below w.heap.size w wr)) (fun l _ => (intOf l).toNat)
          case atStart => exact ⟨0, Nat.zero_le _, by simp, hown1, hown2, HB2⟩
          case round =>
            clear hown1 hown2 HB2
            obtain ⟨t, ht, rfl, hown1, hown2, HB⟩ := hrel
            by_cases htl : t < L
            · obtain ⟨wo, rfl⟩ : ∃ wo : World, wo = wr := ⟨_, rfl⟩
              have HO1 := Lib.hid hown1; have HO2 := Lib.hid hown2
              clear hown1 hown2
              go_wp2
              go_loopw [15, 16] (fun best i wr => ∃ (k : Nat) (c : Int), k ≤ ws.length ∧ i = .int .i64 k ∧ best = .int .i64 c ∧ -1 ≤ c ∧ c ≤ 1000 ∧ Hid (BestAt (rests n W ws) t k c) ∧ ∃ q, wr = wo.drewN q) (fun _ i _ => ws.length - (intOf i).toNat)
              case atStart => exact ⟨0, -1, Nat.zero_le _, rfl, rfl, by omega, by omega, best_start _ _, 0, rfl⟩
              case round =>
                obtain ⟨k, c, hk, rfl, rfl, c0, c1, HBest, q, rfl⟩ := hrel
                by_cases hlt : k < ws.length
                · have hcd := (HO2.out.cellAt k (by omega)).trans (doneRow_get (rests n W ws) ws.length t k hlt)
                  by_cases hd : rank (rests n W ws) k < t
                  · rw [decide_eq_true hd] at hcd
                    have HBest' := Lib.hid (best_done HBest.out hd)
                    clear hd
                    go_wp2
                    go_quiet (fail)
                    go_wp2
                    go_roundw
                    case rel => exact ⟨k + 1, c, by omega, by go_num, rfl, by omega, by omega, HBest', _, rfl⟩
                    case measure => simp [intOf]; omega
                  · rw [decide_eq_false hd] at hcd
                    by_cases hc0 : c < 0
                    · have e : c = -1 := by omega
                      subst e
                      have HBest' := Lib.hid (best_first HBest.out hd)
                      clear hd hc0
                      go_wp2
                      go_quiet (fail)
                      go_wp2
                      go_roundw
                      case rel => exact ⟨k + 1, k, by omega, by go_num, rfl, by omega, by omega, HBest', _, rfl⟩
                      case measure => simp [intOf]; omega
                    · obtain ⟨b', rfl⟩ := Int.eq_ofNat_of_zero_le (show 0 ≤ c by omega)
                      have hb' : b' < ws.length := by
                        rcases HBest.out with ⟨e, _⟩ | ⟨b2, e, hb2, _⟩ <;> omega
                      have hcw : wo.cell? ⟨b, off + k, none⟩ = some (.int .i64 (ws.getD k 0)) := by rw [HB.out.cell hb]; exact Hc.out k hlt
                      have hcb : wo.cell? ⟨b, off + b', none⟩ = some (.int .i64 (ws.getD b' 0)) := by rw [HB.out.cell hb]; exact Hc.out b' hb'
                      obtain ⟨x0, x1⟩ := Hwx.out k hlt
                      obtain ⟨y0, y1⟩ := Hwx.out b' hb'
                      have e1 := rests_get n W ws k hlt
                      have e2 := rests_get n W ws b' hb'
                      have hmore := fun h => best_more (rs := rests n W ws) (t := t) (i := k) (b := b') HBest.out hd h
                      have hless := fun h => best_less (rs := rests n W ws) (t := t) (i := k) (b := b') HBest.out h
                      rw [e1, e2] at hmore hless
                      have Hmore := Lib.hid hmore; have Hless := Lib.hid hless
                      have hcn : decide ((b' : Int) < 0) = false := by simp
                      clear hmore hless e1 e2 hd hc0 HBest
                      generalize ws.getD k 0 = x at *
                      generalize ws.getD b' 0 = y at *
                      have mx0 : 0 ≤ n * x := Int.mul_nonneg hn x0
                      have mx1 : n * x ≤ 1000000000000000000 := by
                        have := Int.mul_le_mul v2 x1 x0 (by omega)
                        omega
                      have my0 : 0 ≤ n * y := Int.mul_nonneg hn y0
                      have my1 : n * y ≤ 1000000000000000000 := by
                        have := Int.mul_le_mul v2 y1 y0 (by omega)
                        omega
                      have kx0 : 0 ≤ n * x % W := Int.emod_nonneg _ (by omega)
                      have ky0 : 0 ≤ n * y % W := Int.emod_nonneg _ (by omega)
                      by_cases hgt : n * y % W < n * x % W
                      · have HBest' := Lib.hid (Hmore.out hgt)
                        go_wp2
                        go_quiet (fail)
                        go_wp2
                        go_roundw
                        case rel => exact ⟨k + 1, k, by omega, by go_num, rfl, by omega, by omega, HBest', _, rfl⟩
                        case measure => simp [intOf]; omega
                      · have HBest' := Lib.hid (Hless.out hgt)
                        have hgd : decide (n * y % W < n * x % W) = false := by simpa using hgt
                        go_wp2
                        go_quiet (fail)
                        go_wp2
                        go_roundw
                        case rel => exact ⟨k + 1, b', by omega, by go_num, rfl, by omega, by omega, HBest', _, rfl⟩
                        case measure => simp [intOf]; omega
                · have e : k = ws.length := by omega
                  subst e
                  obtain ⟨b', hcb, hb', hrk⟩ := best_rank (by rw [Hrl.out]; exact HBest.out) (by rw [Hrl.out]; omega)
                  subst hcb
                  rw [Hrl.out] at hb'
                  have hcd := (HO2.out.cellAt b' (by omega)).trans (doneRow_get (rests n W ws) ws.length t b' hb')
                  have hfd := HO2.out.frozenAt b'
                  have hcp := (HO1.out.cellAt b' (by omega)).trans (rankedRow_get (fun j => (bases n W ws).getD j 0) (rests n W ws) ws.length t b' hb')
                  rw [if_neg (by omega), Int.add_zero] at hcp
                  have hfp := HO1.out.frozenAt b'
                  obtain ⟨y0, y1⟩ := Hbb.out ((bases n W ws).getD b' 0) (by
                    rw [List.getD_eq_getElem?_getD, List.getElem?_eq_getElem (by rw [bases_length]; exact hb')]; exact List.getElem_mem _)
                  have hO1 : (wo.drewN q).ownsRow w.heap.size 3 1 (.slice (some ⟨w.heap.size, 0, none⟩) ws.length ws.length) ws.length (rankedRow (fun j => (bases n W ws).getD j 0) (rests n W ws) ws.length t) := HO1.out
                  have hO2 : (wo.drewN q).ownsRow w.heap.size 4 1 (.slice (some ⟨g2, 0, none⟩) ws.length ws.length) ws.length (doneRow (rests n W ws) ws.length t) := HO2.out
                  have s2 := hO2.stored b' (.bool true)
                  have s1 := (hO1.kept s2.2 (Or.inr (by simp [Value.ownBlock]; exact hne'))).stored b' (.int .i64 ((bases n W ws).getD b' 0 + 1))
                  have s2' := s2.1.kept s1.2 (Or.inr (by simp [Value.ownBlock]; exact hne))
                  have hset2 := doneRow_set (rests n W ws) t b' (by rw [Hrl.out]; exact hb') hrk
                  have hset1 := rankedRow_set (fun j => (bases n W ws).getD j 0) (rests n W ws) t b' (by rw [Hrl.out]; exact hb') hrk
                  rw [Hrl.out] at hset1 hset2
                  rw [hset2] at s2'
                  rw [hset1] at s1
                  have S1 := Lib.hid s1.1; have S2 := Lib.hid s2'
                  have HBn : Hid (RowKit.Below w.heap.size w (((wo.drewN q).setCell ⟨g2, b', none⟩ (.bool true)).setCell ⟨w.heap.size, b', none⟩ (.int .i64 ((bases n W ws).getD b' 0 + 1)))) :=
                    ((below_drewN HB.out q).setCell (p := ⟨g2, b', none⟩) (by show w.heap.size ≤ g2; omega) _).setCell (p := ⟨w.heap.size, b', none⟩) (Nat.le_refl _) _
                  clear s1 s2 s2' hO1 hO2 hset1 hset2 hrk HBest
                  generalize (bases n W ws).getD b' 0 = x at *
                  generalize decide (rank (rests n W ws) b' < t) = dd at *
                  go_wp2
                  go_roundw
                  case rel => exact ⟨t + 1, by omega, by go_num, S1.out, S2.out, HBn⟩
                  case measure => simp [intOf]; omega
            · have e : t = L := by omega
              subst e
              go_wp2
              go_ret2
              refine ⟨w.heap.size, rfl, ?_, HB.out⟩
              rw [Hsp.out]
              have e : rankedRow (fun j => (bases n W ws).getD j 0) (rests n W ws) ws.length t = (divS n ws).map (Value.int .i64) := by
                unfold rankedRow divS
                rw [List.map_map, HW.out]
                apply List.map_congr_left
                intro j hj
                simp only [Function.comp_apply, Hl3.out]
                by_cases hr : rank (rests n W ws) j < t
                · rw [if_pos hr, if_pos (by omega)]
                · rw [if_neg hr, if_neg (by omega)]
              rw [← e]
              exact hown1
end Go.Proofs.YtdjilieadhnhcaaDoor
