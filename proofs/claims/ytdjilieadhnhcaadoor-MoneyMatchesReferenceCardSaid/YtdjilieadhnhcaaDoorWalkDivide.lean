/-
  The walk of divide: the parts of an amount that is not negative.
-/
import Derived.Test.YtdjilieadhnhcaaDoorWalkRest
import Derived.Test.YtdjilieadhnhcaaDoorWalkSum
import Derived.BigRegion
namespace Go.Proofs.YtdjilieadhnhcaaDoor
open Go.RowKit Go.Sort Go.Shelf Foyer.Money

/-- A row of n numbers, of which the first k are laid. -/
def laidTo (f : Nat → Int) (n k : Nat) : List Value := (List.range n).map fun j => Value.int .i64 (if j < k then f j else 0)
theorem laidTo_zero (f : Nat → Int) (n : Nat) : List.replicate n (Value.int .i64 0) = laidTo f n 0 := by
  apply List.ext_getElem
  · simp [laidTo]
  · intro i h1 h2; simp [laidTo]
theorem laidTo_set (f : Nat → Int) (n k : Nat) : (laidTo f n k).set k (.int .i64 (f k)) = laidTo f n (k + 1) := by
  apply List.ext_getElem
  · simp [laidTo]
  · intro i h1 h2
    simp only [laidTo, List.getElem_set, List.getElem_map, List.getElem_range]
    by_cases e : k = i
    · subst e; simp
    · rw [if_neg e]
      by_cases hi : i < k
      · rw [if_pos hi, if_pos (by omega)]
      · rw [if_neg hi, if_neg (by omega)]
theorem laidTo_get (f : Nat → Int) (n k j : Nat) (h : j < n) : (laidTo f n k)[j]? = some (.int .i64 (if j < k then f j else 0)) := by
  simp [laidTo, h]
theorem laidTo_all (zs : List Int) : laidTo (fun j => zs.getD j 0) zs.length zs.length = zs.map (Value.int .i64) := by
  apply List.ext_getElem
  · simp [laidTo]
  · intro i h1 h2
    have hi : i < zs.length := by simpa [laidTo] using h1
    simp [laidTo, hi]

/-- The parts, when the first k places of an order have got a cent. -/
def cented (f : Nat → Int) (o : List Nat) (n k : Nat) : List Value := (List.range n).map fun j => Value.int .i64 (f j + if j ∈ o.take k then 1 else 0)
theorem cented_get (f : Nat → Int) (o : List Nat) (n k j : Nat) (h : j < n) : (cented f o n k)[j]? = some (.int .i64 (f j + if j ∈ o.take k then 1 else 0)) := by
  simp [cented, h]
theorem not_mem_take {o : List Nat} (hn : o.Nodup) (k : Nat) (hk : k < o.length) : o[k] ∉ o.take k := by
  intro h
  obtain ⟨i, hi, e⟩ := List.mem_take_iff_getElem.1 h
  have := (List.getElem_inj hn).1 e
  omega
theorem cented_set (f : Nat → Int) (o : List Nat) (n k : Nat) (hk : k < o.length) : (cented f o n k).set o[k] (.int .i64 (f o[k] + 1)) = cented f o n (k + 1) := by
  apply List.ext_getElem
  · simp [cented]
  · intro i h1 h2
    simp only [cented, List.getElem_set, List.getElem_map, List.getElem_range]
    rw [List.take_succ_eq_append_getElem hk]
    by_cases e : o[k] = i
    · rw [if_pos e, if_pos (by simp [e]), ← e]
    · rw [if_neg e]
      have : i ∈ o.take k ++ [o[k]] ↔ i ∈ o.take k := by
        simp only [List.mem_append, List.mem_singleton]
        constructor
        · rintro (h | h)
          · exact h
          · exact absurd h.symm e
        · exact Or.inl
      simp only [this]

/-- A world in which no block below its size has turned. -/
theorem grown_of_below {w w' : World} (h : RowKit.Below w.heap.size w w') : w.grownBy w' none := ⟨h.os, h.tape, h.output, h.size, fun k hk _ => h.block k hk⟩

def Divided (n : Int) (ws : List Int) (w : World) (e : Ending) (w' : World) : Prop :=
  ∃ g : Nat, e = .returned (.slice (some ⟨g, 0, none⟩) ws.length ws.length) ∧
    w'.ownsRow w.heap.size 3 1 (.slice (some ⟨g, 0, none⟩) ws.length ws.length) ws.length ((divS n ws).map (Value.int .i64)) ∧ RowKit.Below w.heap.size w w'

set_option maxRecDepth 100000 in
set_option maxHeartbeats 1000000 in
theorem divide_any (n : Int) (ws : List Int) (b off cap : Nat) (w : World) (hn0 : 0 ≤ n) (hn1 : n ≤ 1000000000) (hl1 : 1 ≤ ws.length) (hl : ws.length ≤ 1000)
    (hw : ∀ z ∈ ws, 0 ≤ z ∧ z ≤ 1000000000) (hs : 0 < ws.sum) (hb : b < w.heap.size)
    (hc : ∀ j, j < ws.length → w.cell? ⟨b, off + j, none⟩ = some (.int .i64 (ws.getD j 0))) :
    Calls Tryd.prog 31 #[.int .i64 n, .slice (some ⟨b, off, none⟩) ws.length cap] w fun e w' => Divided n ws w e w' := by
  obtain ⟨i0, hi, hz0, hz1, hz2⟩ := info_parts info3
  have Hc := Lib.hid hc; clear hc
  have Hw := Lib.hid hw; clear hw
  have hs2 : ws.sum ≤ 10000000000000 := by
    have := (sum_take_bd ws (fun z hz => by have := Hw.out z hz; omega) ws.length (Nat.le_refl _)).2
    rw [List.take_length] at this; omega
  generalize hW : ws.sum = W at *
  have HW := Lib.hid hW; clear hW
  have HR : Hid (Rd w (some ⟨b, off, none⟩) ws) := Or.inr ⟨b, off, rfl, hb, Hc.out⟩
  go_enter Tryd.func31, Tryd.ntmps31
  go_wp2_with fail
  refine (add_any ws _ cap _ HR.out hl (fun z hz => by have := Hw.out z hz; omega)).mono ?_; rintro e w' ⟨rfl, rfl⟩
  rw [HW.out]
  go_wp2_with (at_make; refine wpList_make_full _ rfl _ _ 24 rfl w.heap.size 3 i0 (.int .i64 0) 1 Tryd.underlying24 hi hz0 hz1 .i64 .i64 _ _ ws.length rfl rfl rfl rfl ?c1 ?c2 ?c3 ?_)
  case c1 => rw [hz2]; omega
  case c2 => unfold maxLen; omega
  case c3 => simp
  intro w1 hown1 hgrow1
  rw [toList_madeCells_one, laidTo_zero (fun j => (bases n W ws).getD j 0)] at hown1
  go_wp2_with (at_make; refine wpList_make_full _ rfl _ _ 24 rfl w.heap.size 3 i0 (.int .i64 0) 1 Tryd.underlying24 hi hz0 hz1 .i64 .i64 _ _ ws.length rfl rfl rfl rfl ?d1 ?d2 ?d3 ?_)
  case d1 => rw [hz2]; omega
  case d2 => unfold maxLen; omega
  case d3 => exact hgrow1.size
  intro w2 hown2 hgrow2
  rw [toList_madeCells_one, laidTo_zero (fun j => (rests n W ws).getD j 0)] at hown2
  have hlt1 : w.heap.size < w1.heap.size := (hown1.lt _ rfl).2
  have hown1 := hown1.kept hgrow2 (Or.inr (by simp [Value.ownBlock]))
  have hbel : RowKit.Below w.heap.size w w2 := ((RowKit.Below.refl w.heap.size w).grown hgrow1 (Nat.le_refl _) (by simp)).grown hgrow2 hgrow1.size (by simp)
  have HB := Lib.hid hbel; clear hbel hgrow1 hgrow2
  generalize w1.heap.size = g2 at *
  have hne : ¬ g2 = w.heap.size := by omega
  have hne' : ¬ w.heap.size = g2 := by omega
  have hWz : (W == 0) = false := by simp; omega
  have HI := Lib.hid hi; clear hi hz0 hz1 hz2
  go_wp2
  go_loopw [23] (fun i wr => ∃ k : Nat, k ≤ ws.length ∧ i = .int .i64 k ∧ wr.ownsRow w.heap.size 3 1 (.slice (some ⟨w.heap.size, 0, none⟩) ws.length ws.length) ws.length (laidTo (fun j => (bases n W ws).getD j 0) ws.length k) ∧ wr.ownsRow w.heap.size 3 1 (.slice (some ⟨g2, 0, none⟩) ws.length ws.length) ws.length (laidTo (fun j => (rests n W ws).getD j 0) ws.length k) ∧ Hid (RowKit.Below w.heap.size w wr)) (fun i _ => ws.length - (intOf i).toNat)
  case atStart => exact ⟨0, Nat.zero_le _, rfl, hown1, hown2, HB⟩
  case round =>
    clear hown1 hown2 HB
    obtain ⟨k, hk, rfl, hown1, hown2, HB⟩ := hrel
    by_cases hlt : k < ws.length
    · have hcw : wr.cell? ⟨b, off + k, none⟩ = some (.int .i64 (ws.getD k 0)) := by rw [HB.out.cell hb]; exact Hc.out k hlt
      have hxw := Hw.out (ws.getD k 0) (by rw [List.getD_eq_getElem?_getD, List.getElem?_eq_getElem hlt]; exact List.getElem_mem _)
      have eb : (bases n W ws).getD k 0 = n * ws.getD k 0 / W := by
        simp [bases, List.getD_eq_getElem?_getD, hlt]
      have er : (rests n W ws).getD k 0 = n * ws.getD k 0 % W := by
        simp [rests, List.getD_eq_getElem?_getD, hlt]
      generalize ws.getD k 0 = x at *
      obtain ⟨hx0, hx1⟩ := hxw
      have hm0 : 0 ≤ n * x := Int.mul_nonneg hn0 hx0
      have hm1 : n * x ≤ 1000000000000000000 := by
        have := Int.mul_le_mul hn1 hx1 hx0 (by omega)
        omega
      have hq0 : 0 ≤ n * x / W := Int.ediv_nonneg hm0 (by omega)
      have hq1 : n * x / W ≤ n * x := Int.ediv_le_self _ hm0
      have hr0 : 0 ≤ n * x % W := Int.emod_nonneg _ (by omega)
      have hr1 : n * x % W < W := Int.emod_lt_of_pos _ (by omega)
      have hc1 := (hown1.cellAt k (by omega)).trans (laidTo_get (fun j => (bases n W ws).getD j 0) ws.length k k hlt)
      have hc2 := (hown2.cellAt k (by omega)).trans (laidTo_get (fun j => (rests n W ws).getD j 0) ws.length k k hlt)
      rw [if_neg (by omega)] at hc1 hc2
      have hf1 := hown1.frozenAt k
      have hf2 := hown2.frozenAt k
      have hs1 := hown1.stored k (.int .i64 (n * x / W))
      have hs2' := (hown2.kept hs1.2 (Or.inr (by simp [Value.ownBlock]; exact hne))).stored k (.int .i64 (n * x % W))
      have hs1' := hs1.1.kept hs2'.2 (Or.inr (by simp [Value.ownBlock]; exact hne'))
      have h1 : (laidTo (fun j => (bases n W ws).getD j 0) ws.length k).set k (.int .i64 (n * x / W)) = laidTo (fun j => (bases n W ws).getD j 0) ws.length (k + 1) := by
        rw [← eb]; exact laidTo_set _ _ _
      have h2 : (laidTo (fun j => (rests n W ws).getD j 0) ws.length k).set k (.int .i64 (n * x % W)) = laidTo (fun j => (rests n W ws).getD j 0) ws.length (k + 1) := by
        rw [← er]; exact laidTo_set _ _ _
      have hs2' := hs2'.1
      rw [h1] at hs1'
      rw [h2] at hs2'
      have Hs1 := Lib.hid hs1'; have Hs2 := Lib.hid hs2'
      clear h1 h2
      clear hs1 hs1' hs2' hown1 hown2 eb er
      go_wp2
      go_region
      go_wp2
      go_roundw
      case rel => exact ⟨k + 1, by omega, by go_num, Hs1.out, Hs2.out, Lib.hid (((HB.out.setCell (p := ⟨w.heap.size, k, none⟩) (Nat.le_refl _) _).setCell (p := ⟨g2, k, none⟩) (by show w.heap.size ≤ g2; omega) _).drew)⟩
      case measure => simp [intOf]; omega
    · have e : k = ws.length := by omega
      subst e
      have elb : (bases n W ws).length = ws.length := by simp [bases]
      have elr : (rests n W ws).length = ws.length := by simp [rests]
      have hl0 := left_nonneg (n := n) (ws := ws) (by rw [HW.out]; omega)
      have hl2 := left_le (n := n) (ws := ws) (by rw [HW.out]; omega)
      have hbd := bases_bd (n := n) (ws := ws) hn0 (fun z hz => (Hw.out z hz).1) (by rw [HW.out]; omega)
      rw [HW.out] at hl0 hl2 hbd
      unfold left at hl0 hl2
      have hsum := (sum_take_bd (bases n W ws) (fun z hz => by have := hbd z hz; omega) (bases n W ws).length (Nat.le_refl _))
      rw [List.take_length, elb] at hsum
      obtain ⟨hsum0, hsum1⟩ := hsum
      have hcP : ∀ j, j < (bases n W ws).length → wr.cell? ⟨w.heap.size, 0 + j, none⟩ = some (.int .i64 ((bases n W ws).getD j 0)) := by
        intro j hj
        rw [elb] at hj
        rw [Nat.zero_add, hown1.cellAt j (by omega), laidTo_get _ _ _ _ hj, if_pos hj]
      have hcR : ∀ j, j < (rests n W ws).length → wr.cell? ⟨g2, 0 + j, none⟩ = some (.int .i64 ((rests n W ws).getD j 0)) := by
        intro j hj
        rw [elr] at hj
        rw [Nat.zero_add, hown2.cellAt j (by omega), laidTo_get _ _ _ _ hj, if_pos hj]
      have hg1 : w.heap.size < wr.heap.size := Lib.lt_of_cell (hcP 0 (by omega))
      have hg2 : g2 < wr.heap.size := Lib.lt_of_cell (hcR 0 (by omega))
      have hA := add_any (bases n W ws) (some ⟨w.heap.size, 0, none⟩) ws.length wr (Or.inr ⟨w.heap.size, 0, rfl, hg1, hcP⟩) (by omega) (fun z hz => by have := hbd z hz; omega)
      have hO := byRest_any (rests n W ws) g2 0 ws.length wr (by omega) (by omega) hg2 hcR
      rw [elb] at hA
      rw [elr] at hO
      have HA := Lib.hid hA; have HO := Lib.hid hO
      have Hown1 := Lib.hid hown1
      have Helr := Lib.hid elr
      have Hbd := Lib.hid hbd
      have Helb := Lib.hid elb
      clear hA hO hcP hcR hbd elb elr hown1 hown2
      generalize hS : (bases n W ws).sum = S at *
      have HS := Lib.hid hS; clear hS
      go_wp2_with fail
      refine HA.out.mono ?_; rintro e w' ⟨rfl, rfl⟩
      go_wp2_with fail
      refine HO.out.mono ?_
      rintro e w3 ⟨g3, o, he, hg3, hg3', hp, hs', hco, hb3⟩
      rw [Helr.out] at he hco
      subst he
      have Hp := Lib.hid hp; have Hs := Lib.hid hs'; have Hco := Lib.hid hco; have Hb3 := Lib.hid hb3
      clear hp hs' hco hb3
      have hc0 : laidTo (fun j => (bases n W ws).getD j 0) ws.length ws.length = cented (fun j => (bases n W ws).getD j 0) o ws.length 0 := by
        unfold laidTo cented
        apply List.map_congr_left
        intro j hj
        rw [if_pos (List.mem_range.1 hj)]; simp
      have hown3 := Hown1.out.kept (grown_of_below Hb3.out) (Or.inr (by simp [Value.ownBlock]))
      rw [hc0] at hown3
      have HB3 := Lib.hid (HB.out.trans (Hb3.out.mono (Nat.le_of_lt hg1)))
      have hnd : o.Nodup := Hp.out.nodup_iff.2 List.nodup_range
      have hol : o.length = ws.length := by rw [Hp.out.length_eq, List.length_range, Helr.out]
      have Hnd := Lib.hid hnd; have Hol := Lib.hid hol
      have hg13 : ¬ w.heap.size = g3 := by omega
      clear hnd hol hc0 HB
      go_wp2
      go_loopw [54] (fun i wr => ∃ k : Nat, k ≤ (n - S).toNat ∧ i = .int .i64 k ∧ wr.ownsRow w.heap.size 3 1 (.slice (some ⟨w.heap.size, 0, none⟩) ws.length ws.length) ws.length (cented (fun j => (bases n W ws).getD j 0) o ws.length k) ∧ Hid (∀ k, k < ws.length → wr.cell? ⟨g3, k, none⟩ = some (.int .i64 (o.getD k 0 : Nat))) ∧ Hid (RowKit.Below w.heap.size w wr)) (fun i _ => (n - S).toNat - (intOf i).toNat)
      case atStart => exact ⟨0, Nat.zero_le _, rfl, hown3, Hco, HB3⟩
      case round =>
        clear hown3 Hco HB3
        obtain ⟨k, hk, rfl, hown, Hco, HB⟩ := hrel
        by_cases hlt : k < (n - S).toNat
        · have hkn : k < ws.length := by omega
          have hko : k < o.length := by rw [Hol.out]; exact hkn
          have hck := Hco.out k hkn
          rw [List.getD_eq_getElem?_getD, List.getElem?_eq_getElem hko, Option.getD_some] at hck
          have hi : o[k] < ws.length := by
            have := Hp.out.mem_iff.1 (List.getElem_mem hko)
            rw [List.mem_range, Helr.out] at this; exact this
          have hcp := (hown.cellAt o[k] (by omega)).trans (cented_get _ o ws.length k o[k] hi)
          rw [if_neg (not_mem_take Hnd.out k hko), Int.add_zero] at hcp
          have hfp := hown.frozenAt o[k]
          have hst := hown.stored o[k] (.int .i64 ((bases n W ws).getD o[k] 0 + 1))
          rw [cented_set (fun j => (bases n W ws).getD j 0) o ws.length k hko] at hst
          have hbx := Hbd.out ((bases n W ws).getD o[k] 0) (by
            rw [List.getD_eq_getElem?_getD, List.getElem?_eq_getElem (by rw [Helb.out]; exact hi)]; exact List.getElem_mem _)
          obtain ⟨hbx0, hbx1⟩ := hbx
          have hco' : ∀ j, j < ws.length → (wr.setCell ⟨w.heap.size, o[k], none⟩ (.int .i64 ((bases n W ws).getD o[k] 0 + 1))).cell? ⟨g3, j, none⟩ = some (.int .i64 (o.getD j 0 : Nat)) := fun j hj =>
            hst.2.cell (Hco.out j hj) (by simp; omega)
          have Hst := Lib.hid hst.1
          have Hco' := Lib.hid hco'
          clear hst hco' hown Hco
          generalize (bases n W ws).getD o[k] 0 = x at *
          generalize o[k] = i at *
          go_wp2
          go_roundw
          case rel => exact ⟨k + 1, by omega, by go_num, Hst.out, Hco', Lib.hid (HB.out.setCell (p := ⟨w.heap.size, i, none⟩) (Nat.le_refl _) _)⟩
          case measure => simp [intOf]; omega
        · have e : k = (n - S).toNat := by omega
          subst e
          go_wp2
          go_ret
          refine ⟨w.heap.size, rfl, ?_, HB.out⟩
          have e : cented (fun j => (bases n W ws).getD j 0) o ws.length (n - S).toNat = (divS n ws).map (Value.int .i64) := by
            unfold cented divS
            rw [HW.out, List.map_map]
            apply List.map_congr_left
            intro j hj
            have hm := mem_take_order Hp.out Hs.out (n - S).toNat j (by rw [Helr.out]; exact List.mem_range.1 hj)
            have hL : left n W ws = n - S := by unfold left; rw [HS.out]
            simp only [Function.comp_apply, hL]
            by_cases hr : rank (rests n W ws) j < (n - S).toNat
            · rw [if_pos (hm.2 hr), if_pos (by omega)]
            · rw [if_neg (fun h => hr (hm.1 h)), if_neg (by omega)]
          rw [← e]
          exact hown
end Go.Proofs.YtdjilieadhnhcaaDoor
