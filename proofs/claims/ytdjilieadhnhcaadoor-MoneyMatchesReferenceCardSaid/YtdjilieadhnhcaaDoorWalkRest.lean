/-
  The walk of byRest: the places in the order of their remainders.
-/
import Derived.Test.YtdjilieadhnhcaaDoorWalkLess
import Derived.Test.YtdjilieadhnhcaaDoorShelfSort
import Derived.Shelf.SlSortCmp.NoneTotal
import Derived.Laws.OwnMore
import Derived.Deep.AppendLies
namespace Go.Proofs.YtdjilieadhnhcaaDoor
open Go.RowKit Go.Sort Go.Shelf Foyer.Money

/-! ### The order, as a strict order of places -/
theorem cmp_lt {a b : Int} : Lib.compareInt a b < 0 ↔ a < b := by
  unfold Lib.compareInt; split
  · simp; assumption
  · split <;> simp <;> omega
theorem cmp_zero {a b : Int} : Lib.compareInt a b = 0 ↔ a = b := by
  unfold Lib.compareInt; split
  · simp; omega
  · split
    · simp; omega
    · simp; omega
theorem cmpS_before (rs : List Int) (i j : Nat) : decide (cmpS rs i j < 0) = before rs i j := by
  unfold cmpS orS before
  rw [Bool.eq_iff_iff]
  simp only [decide_eq_true_eq, Bool.or_eq_true, Bool.and_eq_true, beq_iff_eq]
  by_cases h : Lib.compareInt (rs.getD j 0) (rs.getD i 0) = 0
  · rw [if_pos h]
    have := cmp_zero.1 h
    rw [cmp_lt]; omega
  · rw [if_neg h]
    have h1 := mt cmp_zero.2 h
    rw [cmp_lt]; omega

/-- The comparison of the places of a row of n. -/
def cfn (rs : List Int) (n : Nat) (x y : Fin n) : Int := cmpS rs x.val y.val
theorem lt_cfn (rs : List Int) (n : Nat) (x y : Fin n) : ltOf (cfn rs n) x y = before rs x.val y.val := cmpS_before rs x.val y.val
theorem swo_cfn (rs : List Int) (n : Nat) : SWO (ltOf (cfn rs n)) where
  irrefl x := by rw [lt_cfn]; exact before_irrefl _ _
  trans x y z h1 h2 := by rw [lt_cfn] at *; exact before_trans h1 h2
  ntrans x y z h1 h2 := by
    rw [lt_cfn] at *
    simp only [before, Bool.or_eq_false_iff, decide_eq_false_iff_not, Bool.and_eq_false_iff, beq_eq_false_iff_ne] at *
    omega
theorem tot_cfn (rs : List Int) (n : Nat) (x y : Fin n) (h1 : ltOf (cfn rs n) x y = false) (h2 : ltOf (cfn rs n) y x = false) : x = y := by
  rw [lt_cfn] at h1 h2
  apply Fin.ext
  apply Classical.byContradiction
  intro h
  rcases before_total (rs := rs) h with h' | h' <;> simp_all

/-- What the sort leaves: the places in their order. -/
theorem sorted_order (rs : List Int) (n : Nat) (hn : rs.length = n) :
    (((List.finRange n).mergeSort fun x y => !ltOf (cfn rs n) y x).map Fin.val).Perm (List.range rs.length) ∧
    (((List.finRange n).mergeSort fun x y => !ltOf (cfn rs n) y x).map Fin.val).Pairwise fun a b => before rs a b = true := by
  have hp := List.mergeSort_perm (List.finRange n) fun x y => !ltOf (cfn rs n) y x
  have hr : (List.finRange n).map Fin.val = List.range rs.length := by
    rw [hn]; apply List.ext_getElem <;> simp
  constructor
  · rw [← hr]; exact hp.map _
  · have hnd : ((List.finRange n).mergeSort fun x y => !ltOf (cfn rs n) y x).Nodup := hp.nodup_iff.2 (List.nodup_finRange n)
    have hs := List.pairwise_mergeSort (le := fun x y => !ltOf (cfn rs n) y x) (by
      intro a b c h1 h2
      simp only [Bool.not_eq_true'] at *
      exact (swo_cfn rs n).ntrans _ _ _ h2 h1) (by
      intro a b
      cases h : ltOf (cfn rs n) b a
      · rfl
      · have : ltOf (cfn rs n) a b = false := by
          rw [lt_cfn] at *; exact before_asymm h
        simp [this]) (List.finRange n)
    rw [List.pairwise_map]
    refine (hs.and hnd).imp ?_
    intro a b ⟨h, hne⟩
    rcases before_total (rs := rs) (i := a.val) (j := b.val) (fun e => hne (Fin.ext e)) with h' | h'
    · exact h'
    · rw [lt_cfn, h'] at h; exact absurd h (by decide)

/-! ### Worlds of the sort -/
theorem sort_other {α : Type} [Inhabited α] {enc : α → Value} {w : World} {blk off m : Nat} {dk : Array α} {os : Array Obj} {k : Nat} (hk : k < w.heap.size) (hne : k ≠ blk) :
    (sortWorld enc w blk off m dk os).heap[k]? = w.heap[k]? := by
  unfold sortWorld
  rw [heap_grow_old _ _ (by rw [size_putRow]; exact hk)]
  unfold putRow mapBlock
  show (w.heap.modify blk _)[k]? = _
  rw [Array.getElem?_modify, if_neg (fun e => hne e.symm)]
theorem sort_below {α : Type} [Inhabited α] {enc : α → Value} {w : World} {blk off m B : Nat} {dk : Array α} {os : Array Obj} (h1 : B ≤ blk) (h2 : B ≤ w.heap.size) : RowKit.Below B w (sortWorld enc w blk off m dk os) :=
  ⟨rfl, rfl, rfl, by unfold sortWorld; rw [size_grow, size_putRow]; exact Nat.le_add_right _ _, fun k hk => sort_other (by omega) (by omega)⟩

/-- The row of places, the first k of them laid. -/
def filled (n k : Nat) : List Value := (List.range n).map fun j => Value.int .i64 (if j < k then (j : Int) else 0)
theorem filled_zero (n : Nat) : List.replicate n (Value.int .i64 0) = filled n 0 := by
  apply List.ext_getElem
  · simp [filled]
  · intro i h1 h2; simp [filled]
theorem filled_set (n k : Nat) : (filled n k).set k (.int .i64 k) = filled n (k + 1) := by
  apply List.ext_getElem
  · simp [filled]
  · intro i h1 h2
    simp only [filled, List.getElem_set, List.getElem_map, List.getElem_range]
    by_cases e : k = i
    · subst e; simp
    · rw [if_neg e]
      by_cases hi : i < k
      · rw [if_pos hi, if_pos (by omega)]
      · rw [if_neg hi, if_neg (by omega)]
theorem filled_get (n k j : Nat) (h : j < n) : (filled n k)[j]? = some (.int .i64 (if j < k then (j : Int) else 0)) := by
  simp [filled, h]

theorem info3 : (Tryd.prog.info? 3).map (fun i => (i.zero, i.size, i.bytes)) = some (some (.int .i64 0), 1, 8) := by kernel_rfl

/-- What the sort leaves of a world whose row at block g holds the places 0, 1, .. -/
def SortedAt (rs : List Int) (g : Nat) (w w' : World) : Prop :=
  ∃ o : List Nat, o.Perm (List.range rs.length) ∧ o.Pairwise (fun a b => before rs a b = true) ∧ (∀ k, k < rs.length → w'.cell? ⟨g, k, none⟩ = some (.int .i64 (o.getD k 0 : Nat))) ∧
    w.heap.size ≤ w'.heap.size ∧ ∀ B, B ≤ g → B ≤ w.heap.size → RowKit.Below B w w'

theorem sort_call (rs : List Int) (g B rb ro cap : Nat) (w : World) (hn : 1 ≤ rs.length) (hl : rs.length ≤ 1000) (hg : g < w.heap.size) (hBg : B ≠ g) (hrg : rb ≠ g)
    (hrow : ∀ j, j < rs.length → w.cell? ⟨g, j, none⟩ = some (.int .i64 j) ∧ w.frozen? ⟨g, j, none⟩ = false)
    (hB : w.cell? ⟨B, 0, none⟩ = some (.slice (some ⟨rb, ro, none⟩) rs.length cap))
    (hr : ∀ k, k < rs.length → w.cell? ⟨rb, ro + k, none⟩ = some (.int .i64 (rs.getD k 0))) :
    Calls Tryd.prog 43 #[.slice (some ⟨g, 0, none⟩) rs.length rs.length, .func (.func 44) #[] #[.pointer (some ⟨B, 0, none⟩)]] w fun e w' => e = .returned (.tuple #[]) ∧ SortedAt rs g w w' := by
  generalize hN : rs.length = n at *
  haveI : Inhabited (Fin n) := ⟨⟨0, hn⟩⟩
  have eg : ∀ args w, (callFunc 44 args).run Tryd.prog w = .ok (.enter 44 args) w := enters_of Tryd.func44 (by kernel_rfl) rfl
  have hsz : (List.finRange n).toArray.size = n := by simp
  have hget : ∀ (d : Array (Fin n)) (j : Nat) (hj : j < d.size), d[j]! = d[j] := fun d j hj => getElem!_pos d j hj
  have hH : Holds (fun x : Fin n => Value.int .i64 x.val) w g 0 (List.finRange n).toArray := by
    intro j hj
    rw [hsz] at hj
    have e : (List.finRange n).toArray[j]! = ⟨j, hj⟩ := by rw [hget _ _ (by rw [hsz]; exact hj)]; simp
    rw [e]; simpa using hrow j hj
  have hBw : B < w.heap.size := Lib.lt_of_cell hB
  have hrw : rb < w.heap.size := Lib.lt_of_cell (hr 0 hn)
  have hcmp : CmpLays1 Tryd.prog 44 #[.pointer (some ⟨B, 0, none⟩)] (fun x : Fin n => Value.int .i64 x.val) (cfn rs n) g 0 (List.finRange n).toArray.size w := by
    intro m os dk _ x y
    refine less_any rs x.val y.val B rb ro cap _ (by omega) (by omega) ?_ ?_
    · rw [World.cell?_of_block (sort_other hBw hBg), hB, hN]
    · intro k hk
      rw [World.cell?_of_block (sort_other hrw hrg)]
      exact hr k (by omega)
  have hS := Any.slices_SortFunc_total Tryd.sortL (fun x : Fin n => Value.int .i64 x.val) (fun _ => rfl) (cfn rs n) (swo_cfn rs n) 44 #[.pointer (some ⟨B, 0, none⟩)] g 0 n (List.finRange n).toArray w eg hcmp hH hg (by rw [hsz]; omega) (tot_cfn rs n)
  rw [hsz] at hS
  change Calls Tryd.prog 43 _ _ _ at hS
  refine hS.mono fun e w' ⟨he, m, os, hw⟩ => ⟨he, ?_⟩
  obtain ⟨hp, hs⟩ := sorted_order rs n hN
  refine ⟨_, hp, hs, ?_, ?_, ?_⟩
  · intro k hk
    rw [hw]
    have hlen : ((List.finRange n).mergeSort fun x y => !ltOf (cfn rs n) y x).toArray.size = (List.finRange n).toArray.size := by simp
    have hk' : k < ((List.finRange n).mergeSort fun x y => !ltOf (cfn rs n) y x).toArray.size := by rw [hlen, hsz]; omega
    have h := ((SW.holds (enc := fun x : Fin n => Value.int .i64 x.val) ⟨m, os, rfl⟩ hg hH hlen) k hk').1
    simp only [Nat.zero_add] at h
    rw [h, hget _ _ hk']
    simp only [List.getElem_toArray]
    rw [List.getD_eq_getElem?_getD, List.getElem?_map, List.getElem?_eq_getElem (by simpa using hk')]
    rfl
  · rw [hw]; exact (sort_below (Nat.zero_le _) (Nat.zero_le _)).size
  · intro B' h1 h2
    rw [hw]; exact sort_below h1 h2

def Ordered (rs : List Int) (w : World) (e : Ending) (w' : World) : Prop :=
  ∃ (g : Nat) (o : List Nat), e = .returned (.slice (some ⟨g, 0, none⟩) rs.length rs.length) ∧ w.heap.size ≤ g ∧ g < w'.heap.size ∧ o.Perm (List.range rs.length) ∧ o.Pairwise (fun a b => before rs a b = true) ∧
    (∀ k, k < rs.length → w'.cell? ⟨g, k, none⟩ = some (.int .i64 (o.getD k 0 : Nat))) ∧ RowKit.Below w.heap.size w w'

set_option maxHeartbeats 1000000 in
theorem byRest_any (rs : List Int) (rb ro cap : Nat) (w : World) (hn : 1 ≤ rs.length) (hl : rs.length ≤ 1000) (hb : rb < w.heap.size)
    (hr : ∀ k, k < rs.length → w.cell? ⟨rb, ro + k, none⟩ = some (.int .i64 (rs.getD k 0))) :
    Calls Tryd.prog 38 #[.slice (some ⟨rb, ro, none⟩) rs.length cap] w fun e w' => Ordered rs w e w' := by
  obtain ⟨i0, hi, hz0, hz1, hz2⟩ := info_parts info3
  have Hr := Lib.hid hr; clear hr
  go_enter Tryd.func38, Tryd.ntmps38
  go_wp2_with (at_make; refine wpList_make_full _ rfl _ _ 24 rfl (w.heap.size + 1) 3 i0 (.int .i64 0) 1 Tryd.underlying24 hi hz0 hz1 .i64 .i64 _ _ rs.length rfl rfl rfl rfl ?c1 ?c2 ?c3 ?_)
  case c1 => rw [hz2]; omega
  case c2 => unfold maxLen; omega
  case c3 => simp
  intro w1 hown hgrow
  rw [toList_madeCells_one, filled_zero] at hown
  have hB0 := (RowKit.Below.refl (w.heap.size + 1) (w.alloc (Obj.cells #[Value.slice (some { block := rb, off := ro }) rs.length cap] 24))).grown hgrow (by simp) (by simp)
  have HB := Lib.hid hB0; clear hB0 hgrow
  clear hi hz0 hz1 hz2
  go_wp2
  go_loopw [10] (fun i wr => ∃ k : Nat, k ≤ rs.length ∧ i = .int .i64 k ∧ wr.ownsRow (w.heap.size + 1) 3 1 (.slice (some ⟨w.heap.size + 1, 0, none⟩) rs.length rs.length) rs.length (filled rs.length k) ∧ Hid (RowKit.Below (w.heap.size + 1) (w.alloc (Obj.cells #[Value.slice (some { block := rb, off := ro }) rs.length cap] 24)) wr)) (fun i _ => rs.length - (intOf i).toNat)
  case atStart => exact ⟨0, Nat.zero_le _, rfl, hown, HB⟩
  case round =>
    clear hown HB
    obtain ⟨k, hk, rfl, hown, HB⟩ := hrel
    by_cases hlt : k < rs.length
    · have hcA : wr.cell? ⟨w.heap.size + 1, k, none⟩ = some (.int .i64 (if k < k then (k : Int) else 0)) := (hown.cellAt k (by omega)).trans (filled_get _ _ _ hlt)
      rw [if_neg (by omega)] at hcA
      have hfA := hown.frozenAt k
      have hst := hown.stored k (.int .i64 k)
      rw [filled_set] at hst
      have Hst := Lib.hid hst; clear hst hown
      go_wp2
      go_roundw
      case rel => exact ⟨k + 1, by omega, by go_num, Hst.out.1, Lib.hid (HB.out.setCell (by simp) _)⟩
      case measure => simp [intOf]; omega
    · have e : k = rs.length := by omega
      subst e
      have b1 : RowKit.Below w.heap.size w (w.alloc (Obj.cells #[Value.slice (some { block := rb, off := ro }) rs.length cap] 24)) := (RowKit.Below.refl _ _).alloc (Nat.le_refl _) _
      have hcB : wr.cell? ⟨w.heap.size, 0, none⟩ = some (.slice (some ⟨rb, ro, none⟩) rs.length cap) := by rw [HB.out.cell (by simp)]; simp
      have hcR : ∀ k, k < rs.length → wr.cell? ⟨rb, ro + k, none⟩ = some (.int .i64 (rs.getD k 0)) := by
        intro k hk
        rw [HB.out.cell (by show rb < _; omega), b1.cell hb]
        exact Hr.out k hk
      have hcG : ∀ j, j < rs.length → wr.cell? ⟨w.heap.size + 1, j, none⟩ = some (.int .i64 j) ∧ wr.frozen? ⟨w.heap.size + 1, j, none⟩ = false := by
        intro j hj
        refine ⟨?_, hown.frozenAt j⟩
        rw [hown.cellAt j (by omega), filled_get _ _ _ hj, if_pos hj]
      have hgl : w.heap.size + 1 < wr.heap.size := Lib.lt_of_cell (hcG 0 hn).1
      have hS := sort_call rs (w.heap.size + 1) w.heap.size rb ro cap wr hn hl hgl (by omega) (by omega) hcG hcB hcR
      have B1 := Lib.hid b1; clear b1
      clear hcB hcR hcG hown
      have HS := Lib.hid hS; clear hS
      go_wp2_with fail
      refine HS.out.mono ?_; rintro e w2 ⟨rfl, o, hp, hs, hc, hz, hbl⟩
      have Hp := Lib.hid hp; have Hs := Lib.hid hs; have Hc := Lib.hid hc; have Hz := Lib.hid hz; have Hbl := Lib.hid hbl
      clear hp hs hc hz hbl
      go_wp2
      go_ret
      have b2 := B1.out.trans (HB.out.mono (by omega))
      exact ⟨w.heap.size + 1, o, rfl, by omega, by have := Hz.out; omega, Hp.out, Hs.out, Hc.out, b2.trans (Hbl.out w.heap.size (by omega) (by omega))⟩
end Go.Proofs.YtdjilieadhnhcaaDoor
