/-
  The document's own functions: bounds, coordinates, sides, whether a line crosses a rectangle.
-/
import Derived.Test.YtdmancneccfgeaaWalkView
import Derived.Lib.QuietBelow
import Derived.Test.YtdmancneccfgeaaMathLaws
namespace Go.Proofs.Ytdmancneccfgeaa.Sg
open Go.RowKit Go.Sort Foyer.Hall Foyer.Sight Go.Proofs.Ytdmancneccfgeaa.Hl

/-! ### Bounds -/
structure Small (h : HallZ) : Prop where
  levels : h.levels.length ≤ 40
  pillars : ∀ l ∈ h.levels, l.pillars.length ≤ 100
theorem few_true {h : HallZ} (k : ∀ l ∈ h.levels, l.pillars.length ≤ 100) (n : h.levels.length ≤ 40) : Small h := ⟨n, k⟩
theorem take_step {α : Type} {P : α → Prop} {l : List α} {k : Nat} {x : α} (h : ∀ y ∈ l.take k, P y) (hx : l[k]? = some x) (hp : P x) : ∀ y ∈ l.take (k + 1), P y := by
  obtain ⟨h1, h2⟩ := List.getElem?_eq_some_iff.1 hx
  rw [List.take_succ_eq_append_getElem h1, h2]
  intro y hy
  rcases List.mem_append.1 hy with hy | hy
  · exact h y hy
  · rw [List.mem_singleton] at hy; subst hy; exact hp
/-- What the bound tells. -/
def Says (e : Ending) (S : Prop) : Prop := ∃ y, e = .returned (.bool y) ∧ (y = true → S)
set_option maxRecDepth 100000 in
theorem few_any (h : HallZ) (q : Option Addr) (n cap : Nat) (w : World) (hl : Lk levelL w w.heap.size (.slice q n cap) h.levels) :
    Calls Try.prog 10 #[.agg #[.string ⟨h.name.toArray⟩, .int .i64 h.stage.x, .int .i64 h.stage.y, .slice q n cap], .int .i64 40, .int .i64 100] w fun e w' => Says e (Small h) ∧ Below w.heap.size w w' := by
  obtain ⟨w1, hw1, sw1, bw1, kh⟩ : ∃ w1, w.alloc (.cells #[.string ⟨h.name.toArray⟩, .int .i64 h.stage.x, .int .i64 h.stage.y, .slice q n cap] 28) = w1 ∧ w1.heap.size = w.heap.size + 1 ∧ Since w w1 ∧ Blk w1 (w.heap.size) 28 [.string ⟨h.name.toArray⟩, .int .i64 h.stage.x, .int .i64 h.stage.y, .slice q n cap] := by
    obtain ⟨v1, e1⟩ : ∃ wq, w.alloc (.cells #[.string ⟨h.name.toArray⟩, .int .i64 h.stage.x, .int .i64 h.stage.y, .slice q n cap] 28) = wq := ⟨_, rfl⟩
    have s1 : v1.heap.size = w.heap.size + 1 := by rw [← e1, World.size_alloc]
    have b1 : Since w v1 := by rw [← e1]; exact (Since.refl w).alloc _
    have k1_1 : Blk v1 (w.heap.size) 28 [.string ⟨h.name.toArray⟩, .int .i64 h.stage.x, .int .i64 h.stage.y, .slice q n cap] := by rw [← e1]; exact Blk.new _ _ _
    rw [e1]
    exact ⟨_, rfl, s1, b1, k1_1⟩
  have hn := hl.len
  have hnb : n ≤ 9223372036854775807 := by have := hn.2; unfold maxLen at this; omega
  have HL := Lib.hid (hl.below (show Below w.heap.size w w1 from bw1))
  have HB := Lib.hid bw1; have HW := Lib.hid hw1; have HNL := Lib.hid hn.1
  have c3 := kh.cell (i := 3) rfl
  clear hl hw1 sw1 bw1 kh hn
  go_enter Try.func10, Try.ntmps10
  go_upto_region 1 with fail
  rw [HW.out]
  go_wp2
  go_loop [7] (fun t => ∃ k : Nat, k ≤ n ∧ t = .int .i64 k ∧ Hid (∀ l ∈ h.levels.take k, l.pillars.length ≤ 100)) (fun t => n - (intOf t).toNat)
  case atStart => exact ⟨0, Nat.zero_le _, rfl, Lib.hid (by simp)⟩
  case round =>
    obtain ⟨k, hk, rfl, HP⟩ := hrel
    by_cases hkn : k < n
    · obtain ⟨x, hx⟩ : ∃ x, h.levels[k]? = some x := ⟨_, List.getElem?_eq_getElem (by have := HNL.out; omega)⟩
      obtain ⟨lb, lo, c, rfl, hlb, hc, hcell⟩ := HL.out.at hx
      obtain ⟨v1, v2, v3, v4, v5, rfl, hm0⟩ := hc
      obtain ⟨p4, m4, rfl⟩ := hm0.pillars.slice
      obtain ⟨n4, hn4⟩ : ∃ n, x.pillars.length = n := ⟨_, rfl⟩
      rw [hn4] at hm0 hcell
      have l5 := hcell 5 _ rfl
      rw [show levelL.size = 8 from rfl] at l5
      have hki : (0 : Int) ≤ k ∧ (k : Int) < n := by omega
      have HN4 := Lib.hid hn4; have HX := Lib.hid hx
      clear hcell hlb hn4 hm0 hx
      by_cases h100 : n4 ≤ 100
      · have e1 : decide ((100 : Int) < (n4 : Int)) = false := decide_eq_false (by omega)
        have HP2 := Lib.hid (take_step HP.out HX.out (by rw [HN4.out]; exact h100))
        go_wp2
        go_round
        case rel => exact ⟨k + 1, by omega, by go_num, HP2⟩
        case measure => simp [intOf]; omega
      · have e1 : decide ((100 : Int) < (n4 : Int)) = true := decide_eq_true (by omega)
        go_wp2
        go_ret
        exact ⟨⟨false, rfl, fun h => by cases h⟩, HB.out⟩
    · have hkn2 : k = n := by omega
      subst hkn2
      rw [show h.levels.take k = h.levels from List.take_of_length_le (by have := HNL.out; omega)] at HP
      by_cases h40 : k ≤ 40
      · have e1 : decide ((k : Int) ≤ 40) = true := decide_eq_true (by omega)
        go_wp2
        go_ret
        exact ⟨⟨_, rfl, fun _ => few_true HP.out (by have := HNL.out; omega)⟩, HB.out⟩
      · have e1 : decide ((k : Int) ≤ 40) = false := decide_eq_false (by omega)
        go_wp2
        go_ret
        exact ⟨⟨false, by first | rfl | (simp; omega), fun h => by cases h⟩, HB.out⟩

/-! ### Coordinates -/
theorem rOk_any (zs : List Int) (b cap : Nat) (w : World) (hl : zs.length ≤ 100) (h : RowI w b zs) :
    Calls Try.prog 22 #[.slice (some ⟨b, 0, none⟩) zs.length cap] w fun e w' => e = .returned (.bool (decide (AllC zs))) ∧ w = w' := by
  have Hr := Lib.hid h; clear h
  go_enter Try.func22, Try.ntmps22
  go_wp2
  go_loop [3] (fun i => ∃ k : Nat, k ≤ zs.length ∧ i = .int .i64 k ∧ Hid (AllC (zs.take k))) (fun i => zs.length - (intOf i).toNat)
  case atStart => exact ⟨0, Nat.zero_le _, rfl, Lib.hid (by intro y hy; simp at hy)⟩
  case round =>
    obtain ⟨k, hk, rfl, Hv⟩ := hrel
    by_cases hlt : k < zs.length
    · obtain ⟨z, hz⟩ : ∃ z, zs[k]? = some z := ⟨_, List.getElem?_eq_getElem hlt⟩
      have hck := Hr.out k z hz
      have Hz := Lib.hid hz; clear hz
      have hki : (0 : Int) ≤ k ∧ (k : Int) < zs.length := by omega
      by_cases hvz : coord z
      · have Hv' := Lib.hid (allC_step Hv.out Hz.out hvz); clear Hv
        obtain ⟨v1, v2⟩ := hvz
        have e1 : decide (z < 0) = false := decide_eq_false (by omega)
        have e2 : decide ((10000 : Int) < z) = false := decide_eq_false (by omega)
        go_wp2
        go_round
        case rel => exact ⟨k + 1, by omega, by go_num, Hv'⟩
        case measure => simp [intOf]; omega
      · have HN : Hid (decide (AllC zs) = false) := Lib.hid (decide_eq_false fun h => hvz (h z (List.mem_of_getElem? Hz.out)))
        by_cases h0 : z < 0
        · have e1 : decide (z < 0) = true := decide_eq_true h0
          clear hvz
          go_wp2
          go_ret
          exact ⟨by rw [HN.out]; rfl, rfl⟩
        · have e1 : decide (z < 0) = false := decide_eq_false h0
          have e2 : decide ((10000 : Int) < z) = true := decide_eq_true (by unfold coord at hvz; omega)
          clear hvz
          go_wp2
          go_ret
          exact ⟨by rw [HN.out]; rfl, rfl⟩
    · have e : k = zs.length := by omega
      subst e
      rw [List.take_length] at Hv
      have HN : Hid (decide (AllC zs) = true) := Lib.hid (decide_eq_true Hv.out)
      go_wp2
      go_ret
      exact ⟨by rw [HN.out]; rfl, rfl⟩

/-! ### Sides -/
def sgn (n : Int) : Int := if 0 < n then 1 else if n < 0 then -1 else 0
theorem sgn_pos (n : Int) : 0 < sgn n ↔ 0 < n := by
  unfold sgn
  split
  · omega
  · split <;> omega
theorem sgn_neg (n : Int) : sgn n < 0 ↔ n < 0 := by
  unfold sgn
  split
  · omega
  · split <;> omega
set_option maxRecDepth 100000 in
theorem rTurn_any (ax ay bx by_ cx cy : Int) (h1 : coord ax) (h2 : coord ay) (h3 : coord bx) (h4 : coord by_) (h5 : coord cx) (h6 : coord cy) (w : World) :
    Calls Try.prog 23 #[.agg #[.int .i64 ax, .int .i64 ay], .agg #[.int .i64 bx, .int .i64 by_], .agg #[.int .i64 cx, .int .i64 cy]] w fun e w' =>
      e = .returned (.int .i64 (sgn (turnAt ⟨ax, ay⟩ ⟨bx, by_⟩ cx cy))) ∧ Below w.heap.size w w' := by
  unfold coord at *
  have e1 : wrap64 (bx - ax) = bx - ax := wrap_in (by omega) (by omega)
  have e2 : wrap64 (cy - ay) = cy - ay := wrap_in (by omega) (by omega)
  have e3 : wrap64 (by_ - ay) = by_ - ay := wrap_in (by omega) (by omega)
  have e4 : wrap64 (cx - ax) = cx - ax := wrap_in (by omega) (by omega)
  have p1 := mul_small (u := bx - ax) (v := cy - ay) (by omega) (by omega) (by omega) (by omega)
  have p2 := mul_small (u := by_ - ay) (v := cx - ax) (by omega) (by omega) (by omega) (by omega)
  have e5 : wrap64 ((bx - ax) * (cy - ay)) = (bx - ax) * (cy - ay) := wrap_in (by omega) (by omega)
  have e6 : wrap64 ((by_ - ay) * (cx - ax)) = (by_ - ay) * (cx - ax) := wrap_in (by omega) (by omega)
  have e7 : wrap64 ((bx - ax) * (cy - ay) - (by_ - ay) * (cx - ax)) = (bx - ax) * (cy - ay) - (by_ - ay) * (cx - ax) := wrap_in (by omega) (by omega)
  have hall : wrap64 (wrap64 (wrap64 (bx - ax) * wrap64 (cy - ay)) - wrap64 (wrap64 (by_ - ay) * wrap64 (cx - ax))) = turnAt ⟨ax, ay⟩ ⟨bx, by_⟩ cx cy := by rw [e1, e2, e3, e4, e5, e6, e7]; rfl
  clear e1 e2 e3 e4 e5 e6 e7 p1 p2 h1 h2 h3 h4 h5 h6
  have HB : Hid (Since w (((w.alloc (.cells #[.int .i64 ax, .int .i64 ay] 23)).alloc (.cells #[.int .i64 bx, .int .i64 by_] 23)).alloc (.cells #[.int .i64 cx, .int .i64 cy] 23))) := Lib.hid ((((Since.refl w).alloc _).alloc _).alloc _)
  generalize turnAt ⟨ax, ay⟩ ⟨bx, by_⟩ cx cy = t at *
  by_cases k1 : 0 < t
  · have d1 : decide (0 < t) = true := decide_eq_true k1
    have HK : Hid (sgn t = 1) := Lib.hid (if_pos k1)
    clear k1
    go_enter Try.func23, Try.ntmps23
    go_wp2
    go_ret
    exact ⟨by rw [HK.out]; rfl, HB.out⟩
  · have d1 : decide (0 < t) = false := decide_eq_false k1
    by_cases k2 : t < 0
    · have d2 : decide (t < 0) = true := decide_eq_true k2
      have HK : Hid (sgn t = -1) := Lib.hid ((if_neg k1).trans (if_pos k2))
      clear k1 k2
      go_enter Try.func23, Try.ntmps23
      go_wp2
      go_ret
      exact ⟨by rw [HK.out]; rfl, HB.out⟩
    · have d2 : decide (t < 0) = false := decide_eq_false k2
      have HK : Hid (sgn t = 0) := Lib.hid ((if_neg k1).trans (if_neg k2))
      clear k1 k2
      go_enter Try.func23, Try.ntmps23
      go_wp2
      go_ret
      exact ⟨by rw [HK.out]; rfl, HB.out⟩
end Go.Proofs.Ytdmancneccfgeaa.Sg
