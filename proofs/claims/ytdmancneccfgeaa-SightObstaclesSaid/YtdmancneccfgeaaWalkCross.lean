/-
  The walks of sight's functions on numbers: coordinates, sides, whether a line crosses a rectangle.
-/
import Derived.Test.YtdmancneccfgeaaHallIs
import Derived.Test.YtdmancneccfgeaaMathSight
namespace Go.Proofs.Ytdmancneccfgeaa.Sg
open Go.RowKit Go.Sort Foyer.Hall Foyer.Sight Go.Proofs.Ytdmancneccfgeaa.Hl

theorem wrap_in {n : Int} (h1 : -9223372036854775808 ≤ n) (h2 : n ≤ 9223372036854775807) : wrap64 n = n := IntWalk.wrap64_in _ ⟨h1, h2⟩
theorem mul_small {u v : Int} (h1 : -20000 ≤ u) (h2 : u ≤ 20000) (h3 : -20000 ≤ v) (h4 : v ≤ 20000) : -400000000 ≤ u * v ∧ u * v ≤ 400000000 := by
  have k : (u * v).natAbs ≤ 20000 * 20000 := by rw [Int.natAbs_mul]; exact Nat.mul_le_mul (by omega) (by omega)
  omega
set_option maxRecDepth 100000 in
theorem turnTo_any (ax ay bx by_ cx cy : Int) (h1 : coord ax) (h2 : coord ay) (h3 : coord bx) (h4 : coord by_) (h5 : coord cx) (h6 : coord cy) (w : World) :
    Calls Try.prog 26 #[.agg #[.int .i64 ax, .int .i64 ay], .agg #[.int .i64 bx, .int .i64 by_], .agg #[.int .i64 cx, .int .i64 cy]] w fun e w' =>
      e = .returned (.int .i64 ((bx - ax) * (cy - ay) - (by_ - ay) * (cx - ax))) ∧ Below w.heap.size w w' := by
  unfold coord at *
  have e1 : wrap64 (bx - ax) = bx - ax := wrap_in (by omega) (by omega)
  have e2 : wrap64 (cy - ay) = cy - ay := wrap_in (by omega) (by omega)
  have e3 : wrap64 (by_ - ay) = by_ - ay := wrap_in (by omega) (by omega)
  have e4 : wrap64 (cx - ax) = cx - ax := wrap_in (by omega) (by omega)
  have p1 := mul_small (u := bx - ax) (v := cy - ay) (by omega) (by omega) (by omega) (by omega)
  have p2 := mul_small (u := by_ - ay) (v := cx - ax) (by omega) (by omega) (by omega) (by omega)
  have e5 : wrap64 ((bx - ax) * (cy - ay)) = (bx - ax) * (cy - ay) := wrap_in (by omega) (by omega)
  have e6 : wrap64 ((by_ - ay) * (cx - ax)) = (by_ - ay) * (cx - ax) := wrap_in (by omega) (by omega)
  have e7 : wrap64 ((bx - ax) * (cy - ay) - (by_ - ay) * (cx - ax)) = (bx - ax) * (cy - ay) - (by_ - ay) * (cx - ax) := wrap_in (by omega) (by omega)
  have HE := Lib.hid (And.intro e1 (And.intro e2 (And.intro e3 (And.intro e4 (And.intro e5 (And.intro e6 e7))))))
  clear e1 e2 e3 e4 e5 e6 e7 p1 p2 h1 h2 h3 h4 h5 h6
  go_enter Try.func26, Try.ntmps26
  go_wp2
  go_ret
  obtain ⟨e1, e2, e3, e4, e5, e6, e7⟩ := HE.out
  rw [e1, e2, e3, e4, e5, e6, e7]
  exact ⟨rfl, ((Since.refl w).alloc _).alloc _ |>.alloc _⟩

/-! ### Coordinates -/
/-- Numbers that lie in a row. -/
def RowI (w : World) (b : Nat) (zs : List Int) : Prop := ∀ (j : Nat) z, zs[j]? = some z → w.cell? ⟨b, j, none⟩ = some (.int .i64 z)
def AllC (zs : List Int) : Prop := ∀ n ∈ zs, coord n
instance (zs : List Int) : Decidable (AllC zs) := inferInstanceAs (Decidable (∀ n ∈ zs, coord n))
theorem allC_step {zs : List Int} {k : Nat} {z : Int} (h : AllC (zs.take k)) (hz : zs[k]? = some z) (hc : coord z) : AllC (zs.take (k + 1)) := by
  obtain ⟨h1, h2⟩ := List.getElem?_eq_some_iff.1 hz
  rw [List.take_succ_eq_append_getElem h1, h2]
  intro y hy
  rcases List.mem_append.1 hy with hy | hy
  · exact h y hy
  · rw [List.mem_singleton] at hy; subst hy; exact hc
theorem areCo_any (zs : List Int) (b cap : Nat) (w : World) (hl : zs.length ≤ 100) (h : RowI w b zs) :
    Calls Try.prog 19 #[.slice (some ⟨b, 0, none⟩) zs.length cap] w fun e w' => e = .returned (.bool (decide (AllC zs))) ∧ w = w' := by
  have Hr := Lib.hid h; clear h
  go_enter Try.func19, Try.ntmps19
  go_wp2
  go_loop [7] (fun i => ∃ k : Nat, k ≤ zs.length ∧ i = .int .i64 k ∧ Hid (AllC (zs.take k))) (fun i => zs.length - (intOf i).toNat)
  case atStart => exact ⟨0, Nat.zero_le _, rfl, Lib.hid (by intro y hy; simp at hy)⟩
  case round =>
    obtain ⟨k, hk, rfl, Hv⟩ := hrel
    by_cases hlt : k < zs.length
    · obtain ⟨z, hz⟩ : ∃ z, zs[k]? = some z := ⟨_, List.getElem?_eq_getElem hlt⟩
      have hck := Hr.out k z hz
      have Hz := Lib.hid hz; clear hz
      by_cases hvz : coord z
      · have Hv' := Lib.hid (allC_step Hv.out Hz.out hvz); clear Hv
        obtain ⟨v1, v2⟩ := hvz
        have e1 : decide (z < 0) = false := decide_eq_false (by omega)
        have e2 : decide ((10000 : Int) < z) = false := decide_eq_false (by omega)
        go_wp2
        go_round
        case rel => exact ⟨k + 1, by omega, by go_num, Hv'⟩
        case measure => simp [intOf]; omega
      · have HN : Hid (decide (AllC zs) = false) := Lib.hid (decide_eq_false fun h => hvz (h z (List.mem_of_getElem? Hz.out)))
        by_cases h0 : z < 0
        · have e1 : decide (z < 0) = true := decide_eq_true h0
          clear hvz
          go_wp2
          go_ret
          exact ⟨by rw [HN.out]; rfl, rfl⟩
        · have e1 : decide (z < 0) = false := decide_eq_false h0
          have e2 : decide ((10000 : Int) < z) = true := decide_eq_true (by unfold coord at hvz; omega)
          clear hvz
          go_wp2
          go_ret
          exact ⟨by rw [HN.out]; rfl, rfl⟩
    · have e : k = zs.length := by omega
      subst e
      rw [List.take_length] at Hv
      have HN : Hid (decide (AllC zs) = true) := Lib.hid (decide_eq_true Hv.out)
      go_wp2
      go_ret
      exact ⟨by rw [HN.out]; rfl, rfl⟩

/-! ### Two spans of numbers -/
def ovl (p q lo hi : Int) : Bool := decide (lo ≤ hi ∧ (lo ≤ p ∨ lo ≤ q) ∧ (p ≤ hi ∨ q ≤ hi))
theorem overlap_any (p q lo hi : Int) (w : World) :
    Calls Try.prog 20 #[.int .i64 p, .int .i64 q, .int .i64 lo, .int .i64 hi] w fun e w' => e = .returned (.bool (ovl p q lo hi)) ∧ w = w' := by
  go_enter Try.func20, Try.ntmps20
  go_wp2
  all_goals go_ret
  all_goals
    refine ⟨congrArg (fun b => Ending.returned (Value.bool b)) ?_, rfl⟩
    unfold ovl
    first
      | exact decide_eq_decide.2 (by omega)
      | exact (decide_eq_false (by omega)).symm

/-! ### A rectangle beside a line -/
def cx (X : Bx) : Nat → Int
  | 0 => X.x
  | 1 => X.x2
  | 2 => X.x
  | _ => X.x2
def cy (X : Bx) : Nat → Int
  | 0 => X.y
  | 1 => X.y
  | 2 => X.y2
  | _ => X.y2
def trn (a b : Pt) (x y : Int) : Int := (b.x - a.x) * (y - a.y) - (b.y - a.y) * (x - a.x)
theorem trn_eq (a b : Pt) (x y : Int) : trn a b x y = turnAt a b x y := rfl
/-- How many of the first corners lie on the one side. -/
def lefts (a b : Pt) (X : Bx) : Nat → Nat
  | 0 => 0
  | k + 1 => lefts a b X k + if 0 < trn a b (cx X k) (cy X k) then 1 else 0
def rights (a b : Pt) (X : Bx) : Nat → Nat
  | 0 => 0
  | k + 1 => rights a b X k + if trn a b (cx X k) (cy X k) < 0 then 1 else 0
theorem lefts_le (a b : Pt) (X : Bx) : ∀ k, lefts a b X k ≤ k
  | 0 => Nat.le_refl _
  | k + 1 => by have := lefts_le a b X k; unfold lefts; split <;> omega
theorem rights_le (a b : Pt) (X : Bx) : ∀ k, rights a b X k ≤ k
  | 0 => Nat.le_refl _
  | k + 1 => by have := rights_le a b X k; unfold rights; split <;> omega
def beside (a b : Pt) (X : Bx) : Bool := decide (lefts a b X 4 = 4) || decide (rights a b X 4 = 4)
set_option maxRecDepth 100000 in
theorem isBeside_any (a b : Pt) (X : Bx) (h : AllCo a b X) (w : World) :
    Calls Try.prog 21 #[.agg #[.int .i64 a.x, .int .i64 a.y], .agg #[.int .i64 b.x, .int .i64 b.y], .agg #[.int .i64 X.x, .int .i64 X.y, .int .i64 X.x2, .int .i64 X.y2]] w fun e w' =>
      e = .returned (.bool (beside a b X)) ∧ Below w.heap.size w w' := by
  have hx : ∀ k, coord (cx X k) ∧ coord (cy X k) := fun k => by
    have g : ∀ n, n ∈ [a.x, a.y, b.x, b.y, X.x, X.y, X.x2, X.y2] → coord n := h
    match k with
    | 0 => exact ⟨g _ (by simp [cx]), g _ (by simp [cy])⟩
    | 1 => exact ⟨g _ (by simp [cx]), g _ (by simp [cy])⟩
    | 2 => exact ⟨g _ (by simp [cx]), g _ (by simp [cy])⟩
    | (n + 3) => exact ⟨g _ (by simp [cx]), g _ (by simp [cy])⟩
  have ha : (coord a.x ∧ coord a.y) ∧ coord b.x ∧ coord b.y := ⟨⟨h _ (by simp), h _ (by simp)⟩, h _ (by simp), h _ (by simp)⟩
  have hi : ∀ k : Nat, k < 4 → ∀ w : World, (Instr.index 60 (.agg #[.int .i64 X.x, .int .i64 X.y, .int .i64 X.x2, .int .i64 X.y, .int .i64 X.x, .int .i64 X.y2, .int .i64 X.x2, .int .i64 X.y2]) (.int .i64 k)).run Try.prog w = .ok (.agg #[.int .i64 (cx X k), .int .i64 (cy X k)]) w := fun k hk => by
    match k, hk with
    | 0, _ => exact fun _ => by kernel_rfl
    | 1, _ => exact fun _ => by kernel_rfl
    | 2, _ => exact fun _ => by kernel_rfl
    | 3, _ => exact fun _ => by kernel_rfl
  have HX := Lib.hid hx; have HA := Lib.hid ha; have HI := Lib.hid hi
  clear hx ha hi h
  obtain ⟨w4, hw4, hs4, hb4, ka, kb⟩ : ∃ w4, (((w.alloc (.cells #[.int .i64 a.x, .int .i64 a.y] 23)).alloc (.cells #[.int .i64 b.x, .int .i64 b.y] 23)).alloc (.cells #[.int .i64 X.x, .int .i64 X.y, .int .i64 X.x2, .int .i64 X.y2] 25)).alloc
      (.cells #[.int .i64 X.x, .int .i64 X.y, .int .i64 X.x2, .int .i64 X.y, .int .i64 X.x, .int .i64 X.y2, .int .i64 X.x2, .int .i64 X.y2] 60) = w4 ∧ w4.heap.size = w.heap.size + 4 ∧ Since w w4 ∧ Blk w4 w.heap.size 23 [.int .i64 a.x, .int .i64 a.y] ∧ Blk w4 (w.heap.size + 1) 23 [.int .i64 b.x, .int .i64 b.y] := by
    refine ⟨_, rfl, by simp, ((((Since.refl w).alloc _).alloc _).alloc _).alloc _, ?_, ?_⟩
    · exact (((Blk.new w 23 [.int .i64 a.x, .int .i64 a.y]).alloc _).alloc _).alloc _
    · have := ((Blk.new (w.alloc (.cells #[.int .i64 a.x, .int .i64 a.y] 23)) 23 [.int .i64 b.x, .int .i64 b.y]).alloc (.cells #[.int .i64 X.x, .int .i64 X.y, .int .i64 X.x2, .int .i64 X.y2] 25)).alloc (.cells #[.int .i64 X.x, .int .i64 X.y, .int .i64 X.x2, .int .i64 X.y, .int .i64 X.x, .int .i64 X.y2, .int .i64 X.x2, .int .i64 X.y2] 60)
      rw [World.size_alloc] at this
      exact this
  have HW4 := Lib.hid hw4; have HS4 := Lib.hid hs4; have HB4 := Lib.hid hb4; have KA := Lib.hid ka; have KB := Lib.hid kb
  clear hw4 hs4 hb4 ka kb
  go_enter Try.func21, Try.ntmps21
  go_wp2
  rw [HW4.out]
  go_loopw [8, 9, 35] (fun l r i wr => ∃ k : Nat, k ≤ 4 ∧ i = .int .i64 k ∧ l = .int .i64 (lefts a b X k : Nat) ∧ r = .int .i64 (rights a b X k : Nat) ∧ Hid (Below w4.heap.size w4 wr)) (fun _ _ i _ => 4 - (intOf i).toNat)
  case atStart => exact ⟨0, Nat.zero_le _, rfl, rfl, rfl, Lib.hid (Below.refl _ _)⟩
  case round =>
    obtain ⟨k, hk, rfl, rfl, rfl, HR⟩ := hrel
    by_cases hlt : k < 4
    · have IX := HI.out k hlt
      obtain ⟨⟨a1, a2⟩, a3, a4⟩ := HA.out
      obtain ⟨x1, x2⟩ := HX.out k
      have HC := Lib.hid (turnTo_any a.x a.y b.x b.y (cx X k) (cy X k) a1 a2 a3 a4 x1 x2)
      have HT : Hid ((b.x - a.x) * (cy X k - a.y) - (b.y - a.y) * (cx X k - a.x) = trn a b (cx X k) (cy X k)) := Lib.hid rfl
      have HL : Hid (lefts a b X (k + 1) = lefts a b X k + if 0 < trn a b (cx X k) (cy X k) then 1 else 0) := Lib.hid rfl
      have HQ : Hid (rights a b X (k + 1) = rights a b X k + if trn a b (cx X k) (cy X k) < 0 then 1 else 0) := Lib.hid rfl
      clear a1 a2 a3 a4 x1 x2
      go_upto_region 6 with fail
      obtain ⟨wl, hwl, hbl, kc⟩ : ∃ wl, wr.alloc (.cells #[.int .i64 (cx X k), .int .i64 (cy X k)] 23) = wl ∧ Below w4.heap.size w4 wl ∧ Blk wl wr.heap.size 23 [.int .i64 (cx X k), .int .i64 (cy X k)] :=
        ⟨_, rfl, HR.out.alloc HR.out.size _, Blk.new _ _ _⟩
      rw [hwl]
      clear hwl IX
      have hka := KA.out.kept (Kp.of_below (E := fun _ => False) hbl) (fun h => h)
      have hkb := KB.out.kept (Kp.of_below (E := fun _ => False) hbl) (fun h => h)
      have p0 := hka.cell (i := 0) rfl
      have p1 := hka.cell (i := 1) rfl
      have q0 := hkb.cell (i := 0) rfl
      have q1 := hkb.cell (i := 1) rfl
      have r0 := kc.cell (i := 0) rfl
      have r1 := kc.cell (i := 1) rfl
      have HBL := Lib.hid hbl
      clear hka hkb kc hbl HR
      go_wp2_with fail
      refine (HC.out wl).mono ?_
      rintro e w' ⟨rfl, hb⟩
      rw [HT.out]
      have HR2 := Lib.hid (HBL.out.trans (hb.mono HBL.out.size))
      clear hb p0 p1 q0 q1 r0 r1 HBL HC HT
      generalize trn a b (cx X k) (cy X k) = t at *
      have lk := lefts_le a b X k
      have rk := rights_le a b X k
      have kl : Hid ((k : Int) + 1 = ((k + 1 : Nat) : Int)) := Lib.hid (by omega)
      rcases Int.lt_trichotomy 0 t with ht | ht | ht
      · have e1 : decide (0 < t) = true := decide_eq_true ht
        have e2 : decide (t < 0) = false := decide_eq_false (by omega)
        have HL2 : Hid (wrap64 ((lefts a b X k : Int) + 1) = ((lefts a b X (k + 1) : Nat) : Int)) := Lib.hid (by rw [HL.out, if_pos ht, wrap_in (by omega) (by omega)]; rfl)
        have HQ2 : Hid (rights a b X k = rights a b X (k + 1)) := Lib.hid (by rw [HQ.out, if_neg (by omega)]; rfl)
        clear HL HQ ht lk rk
        go_wp2
        go_roundw
        case rel => exact ⟨k + 1, by omega, by rw [kl.out], by rw [HL2.out], by rw [HQ2.out], HR2⟩
        case measure => simp [intOf]; omega
      · subst ht
        have HL2 : Hid (lefts a b X k = lefts a b X (k + 1)) := Lib.hid (by rw [HL.out, if_neg (by omega)]; rfl)
        have HQ2 : Hid (rights a b X k = rights a b X (k + 1)) := Lib.hid (by rw [HQ.out, if_neg (by omega)]; rfl)
        clear HL HQ lk rk
        go_wp2
        go_roundw
        case rel => exact ⟨k + 1, by omega, by rw [kl.out], by rw [HL2.out], by rw [HQ2.out], HR2⟩
        case measure => simp [intOf]; omega
      · have e1 : decide (0 < t) = false := decide_eq_false (by omega)
        have e2 : decide (t < 0) = true := decide_eq_true ht
        have HL2 : Hid (lefts a b X k = lefts a b X (k + 1)) := Lib.hid (by rw [HL.out, if_neg (by omega)]; rfl)
        have HQ2 : Hid (wrap64 ((rights a b X k : Int) + 1) = ((rights a b X (k + 1) : Nat) : Int)) := Lib.hid (by rw [HQ.out, if_pos ht, wrap_in (by omega) (by omega)]; rfl)
        clear HL HQ ht lk rk
        go_wp2
        go_roundw
        case rel => exact ⟨k + 1, by omega, by rw [kl.out], by rw [HL2.out], by rw [HQ2.out], HR2⟩
        case measure => simp [intOf]; omega
    · have hk4 : k = 4 := by omega
      subst hk4
      have HBR : Hid (Below w.heap.size w wr) := Lib.hid (HB4.out.trans (HR.out.mono HB4.out.size))
      have HBB : Hid (beside a b X = (decide (lefts a b X 4 = 4) || decide (rights a b X 4 = 4))) := Lib.hid rfl
      clear HR HB4 HI HX HA KA KB HW4 HS4 hk hlt
      generalize lefts a b X 4 = L at *
      generalize rights a b X 4 = R at *
      by_cases hL : L = 4
      · subst hL
        go_wp2
        go_ret
        exact ⟨by rw [HBB.out]; rfl, HBR.out⟩
      · have hL1 : ((L : Int) == 4) = false := by simp; omega
        have HL4 : Hid (decide (L = 4) = false) := Lib.hid (decide_eq_false hL)
        have hL2 : ¬ (L : Int) = 4 := by omega
        clear hL
        by_cases hR : R = 4
        · subst hR
          go_wp2
          go_ret
          exact ⟨by rw [HBB.out, HL4.out]; rfl, HBR.out⟩
        · have hR1 : ((R : Int) == 4) = false := by simp; omega
          have HR4 : Hid (decide (R = 4) = false) := Lib.hid (decide_eq_false hR)
          have hR2 : ¬ (R : Int) = 4 := by omega
          clear hR
          go_wp2
          go_ret
          exact ⟨by rw [HBB.out, HL4.out, HR4.out]; rfl, HBR.out⟩
end Go.Proofs.Ytdmancneccfgeaa.Sg
