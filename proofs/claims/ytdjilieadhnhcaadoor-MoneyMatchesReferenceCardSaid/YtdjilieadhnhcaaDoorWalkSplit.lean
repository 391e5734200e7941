/-
  The walk of Split.
-/
import Derived.Test.YtdjilieadhnhcaaDoorWalkDivide
namespace Go.Proofs.YtdjilieadhnhcaaDoor
open Go.RowKit Go.Sort Go.Shelf Foyer.Money

theorem vWeights_iff {ws : List Int} : vWeights ws = true ↔ (∀ z ∈ ws, 0 ≤ z ∧ z ≤ 1000000000) ∧ 0 < ws.sum := by
  unfold vWeights
  rw [Bool.and_eq_true, List.all_eq_true, decide_eq_true_eq]
  simp only [decide_eq_true_eq]
theorem vWeights_length {ws : List Int} (h : vWeights ws = true) : 1 ≤ ws.length := by
  have := (vWeights_iff.1 h).2
  cases ws with
  | nil => simp at this
  | cons a l => simp
theorem divS_length (n : Int) (ws : List Int) : (divS n ws).length = ws.length := by simp [divS]
theorem divS_bd {n : Int} {ws : List Int} (hn : 0 ≤ n) (h : vWeights ws = true) (j : Nat) (hj : j < ws.length) : 0 ≤ (divS n ws).getD j 0 ∧ (divS n ws).getD j 0 ≤ n + 1 := by
  obtain ⟨h1, h2⟩ := vWeights_iff.1 h
  have hl : (bases n ws.sum ws).length = ws.length := by simp [bases]
  have hb := bases_bd hn (fun z hz => (h1 z hz).1) h2 ((bases n ws.sum ws).getD j 0) (by
    rw [List.getD_eq_getElem?_getD, List.getElem?_eq_getElem (by rw [hl]; exact hj)]; exact List.getElem_mem _)
  have e : (divS n ws).getD j 0 = (bases n ws.sum ws).getD j 0 + if (rank (rests n ws.sum ws) j : Int) < left n ws.sum ws then 1 else 0 := by
    unfold divS; rw [List.getD_eq_getElem?_getD, List.getElem?_map, List.getElem?_range hj]; rfl
  rw [e]; split <;> omega

/-- The parts, the first k of them with their sign. -/
def signed (zs : List Int) (s : Int) (k : Nat) : List Value := (List.range zs.length).map fun j => Value.int .i64 (if j < k then zs.getD j 0 * s else zs.getD j 0)
theorem signed_zero (zs : List Int) (s : Int) : zs.map (Value.int .i64) = signed zs s 0 := by
  apply List.ext_getElem
  · simp [signed]
  · intro i h1 h2
    have hi : i < zs.length := by simpa using h1
    simp [signed, hi]
theorem signed_set (zs : List Int) (s : Int) (k : Nat) : (signed zs s k).set k (.int .i64 (zs.getD k 0 * s)) = signed zs s (k + 1) := by
  apply List.ext_getElem
  · simp [signed]
  · intro i h1 h2
    simp only [signed, List.getElem_set, List.getElem_map, List.getElem_range]
    by_cases e : k = i
    · subst e; simp
    · rw [if_neg e]
      by_cases hi : i < k
      · rw [if_pos hi, if_pos (by omega)]
      · rw [if_neg hi, if_neg (by omega)]
theorem signed_get (zs : List Int) (s : Int) (k j : Nat) (h : j < zs.length) : (signed zs s k)[j]? = some (.int .i64 (if j < k then zs.getD j 0 * s else zs.getD j 0)) := by
  simp [signed, h]
theorem signed_all (zs : List Int) (s : Int) : signed zs s zs.length = (zs.map fun p => p * s).map (Value.int .i64) := by
  apply List.ext_getElem
  · simp [signed]
  · intro i h1 h2
    have hi : i < zs.length := by simpa [signed] using h1
    simp [signed, hi]

theorem split_bad (n : Int) (ws : List Int) (p : Option Addr) (cap : Nat) (w : World) (h : (valid n && vWeights ws) = false) (hr : Rd w p ws) (hl : ws.length ≤ 1000) :
    Calls Tryd.prog 15 #[.int .i64 n, .slice p ws.length cap] w fun e w' => e = .returned (.tuple #[.slice none 0 0, .int .i64 1]) ∧ w = w' := by
  cases hv : valid n
  · clear h
    go_enter Tryd.func15, Tryd.ntmps15
    go_wp2_with fail
    refine (valid_no _ _ hv).mono ?_; rintro e w' ⟨rfl, rfl⟩
    go_wp2
    go_ret2
    exact ⟨rfl, rfl⟩
  · have hw : vWeights ws = false := by simpa [hv] using h
    clear h
    have HW := Lib.hid hw; clear hw
    have Hr := Lib.hid hr; clear hr
    go_enter Tryd.func15, Tryd.ntmps15
    go_wp2_with fail
    refine (valid_yes _ _ hv).mono ?_; rintro e w' ⟨rfl, rfl⟩
    go_wp2_with fail
    refine (weights_any ws p cap _ Hr.out hl).mono ?_; rintro e w' ⟨rfl, rfl⟩
    rw [HW.out]
    go_wp2
    go_ret2
    exact ⟨rfl, rfl⟩

def SplitDone (n : Int) (ws : List Int) (w : World) (e : Ending) (w' : World) : Prop :=
  ∃ g : Nat, e = .returned (.tuple #[.slice (some ⟨g, 0, none⟩) ws.length ws.length, .int .i64 0]) ∧
    w'.ownsRow w.heap.size 3 1 (.slice (some ⟨g, 0, none⟩) ws.length ws.length) ws.length ((splitS n ws).map (Value.int .i64)) ∧ RowKit.Below w.heap.size w w'

set_option maxRecDepth 100000 in
set_option maxHeartbeats 1000000 in
theorem split_ok (n : Int) (ws : List Int) (p : Option Addr) (cap : Nat) (w : World) (h : (valid n && vWeights ws) = true) (hr : Rd w p ws) (hl : ws.length ≤ 1000) :
    Calls Tryd.prog 15 #[.int .i64 n, .slice p ws.length cap] w fun e w' => SplitDone n ws w e w' := by
  obtain ⟨hv, hw⟩ := (Bool.and_eq_true _ _).mp h
  clear h
  have hl1 := vWeights_length hw
  obtain ⟨hw1, hw2⟩ := vWeights_iff.1 hw
  obtain ⟨s1, s2⟩ := size_bd hv
  have hdb := fun j hj => divS_bd (n := size n) (ws := ws) s1 hw j hj
  have hdl := divS_length (size n) ws
  have hD : splitS n ws = (divS (size n) ws).map fun p => p * sgn n := rfl
  rcases hr with e | ⟨b, off, rfl, hb, hc⟩
  · rw [e] at hl1; simp at hl1
  have HR : Hid (Rd w (some ⟨b, off, none⟩) ws) := Or.inr ⟨b, off, rfl, hb, hc⟩
  have hdiv := divide_any (size n) ws b off cap w s1 s2 hl1 hl hw1 hw2 hb hc
  have Hdiv := Lib.hid hdiv
  have HD := Lib.hid hD; have Hdb := Lib.hid hdb; have Hdl := Lib.hid hdl; have HW := Lib.hid hw; have HV := Lib.hid hv
  clear hc hw1 hw2 hdiv hD hdb hdl hw hv
  rw [show Divided (size n) ws w = fun e w' => Divided (size n) ws w e w' from rfl] at Hdiv
  unfold Divided at Hdiv
  have hs1 := sgn_cases n
  generalize hz : size n = z at *
  generalize hsg : sgn n = s at *
  have Hz := Lib.hid hz; have Hsg := Lib.hid hsg; clear hz hsg
  generalize hds : divS z ws = ds at *
  have Hds := Lib.hid hds; clear hds
  go_enter Tryd.func15, Tryd.ntmps15
  go_wp2_with fail
  refine (valid_yes _ _ HV.out).mono ?_; rintro e w' ⟨rfl, rfl⟩
  go_wp2_with fail
  refine (weights_any ws _ cap _ HR.out hl).mono ?_; rintro e w' ⟨rfl, rfl⟩
  rw [HW.out]
  go_wp2_with fail
  refine (absolute_any _ _ HV.out).mono ?_; rintro e w' ⟨rfl, rfl⟩
  rw [Hz.out, Hsg.out]
  go_wp2_with fail
  refine Hdiv.out.mono ?_; rintro e w1 ⟨g, rfl, hown, hb1⟩
  rw [signed_zero ds s] at hown
  have HB := Lib.hid hb1; clear hb1
  go_wp2
  go_loopw [28] (fun i wr => ∃ k : Nat, k ≤ ws.length ∧ i = .int .i64 k ∧ wr.ownsRow w.heap.size 3 1 (.slice (some ⟨g, 0, none⟩) ws.length ws.length) ws.length (signed ds s k) ∧ Hid (RowKit.Below w.heap.size w wr)) (fun i _ => ws.length - (intOf i).toNat)
  case atStart => exact ⟨0, Nat.zero_le _, rfl, hown, HB⟩
  case round =>
    have hgl := (hown.lt _ rfl).1
    clear hown HB
    obtain ⟨k, hk, rfl, hown, HB⟩ := hrel
    by_cases hlt : k < ws.length
    · have hcp := (hown.cellAt k (by omega)).trans (signed_get ds s k k (by rw [Hdl.out]; exact hlt))
      rw [if_neg (by omega)] at hcp
      have hfp := hown.frozenAt k
      have hst := hown.stored k (.int .i64 (ds.getD k 0 * s))
      rw [signed_set ds s k] at hst
      obtain ⟨d0, d1⟩ := Hdb.out k hlt
      generalize ds.getD k 0 = x at *
      have hm : -1000000001 ≤ x * s ∧ x * s ≤ 1000000001 := by
        rcases hs1 with e | e <;> rw [e] <;> omega
      obtain ⟨hm0, hm1⟩ := hm
      have Hst := Lib.hid hst.1
      clear hst hown
      have Hs1 := Lib.hid hs1; clear hs1
      go_wp2
      go_roundw
      case rel => exact ⟨k + 1, by omega, by go_num, Hst.out, Lib.hid (HB.out.setCell (p := ⟨g, k, none⟩) hgl _)⟩
      case measure => simp [intOf]; omega
    · have e : k = ws.length := by omega
      subst e
      have Hs1 := Lib.hid hs1; clear hs1
      go_wp2
      go_ret2
      refine ⟨g, rfl, ?_, HB.out⟩
      rw [HD.out, ← signed_all, Hdl.out]
      exact hown
end Go.Proofs.YtdjilieadhnhcaaDoor
