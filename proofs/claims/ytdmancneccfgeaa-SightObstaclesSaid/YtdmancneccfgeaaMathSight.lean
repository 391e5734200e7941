/-
  The plain mathematics of lines and rectangles: when a line crosses a rectangle, and the promises about it. No program is spoken of here.
-/
import Derived.Test.YtdmancneccfgeaaMathHall
namespace Foyer.Sight

abbrev Pt := Foyer.Hall.PointZ
abbrev Bx := Foyer.Hall.BoxZ
/-- A coordinate. -/
def coord (n : Int) : Prop := 0 ≤ n ∧ n ≤ 10000
instance (n : Int) : Decidable (coord n) := inferInstanceAs (Decidable (_ ∧ _))
/-- Twice the area of a triangle, with its sign. -/
def turn (a b p : Pt) : Int := (b.x - a.x) * (p.y - a.y) - (b.y - a.y) * (p.x - a.x)
def turnAt (a b : Pt) (x y : Int) : Int := turn a b ⟨x, y⟩
/-- No coordinate and no side of the line separates them. -/
structure Cr (a b : Pt) (X : Bx) : Prop where
  wide : X.x ≤ X.x2
  high : X.y ≤ X.y2
  left : X.x ≤ a.x ∨ X.x ≤ b.x
  right : a.x ≤ X.x2 ∨ b.x ≤ X.x2
  low : X.y ≤ a.y ∨ X.y ≤ b.y
  top : a.y ≤ X.y2 ∨ b.y ≤ X.y2
  above : ¬ (0 < turnAt a b X.x X.y ∧ 0 < turnAt a b X.x2 X.y ∧ 0 < turnAt a b X.x X.y2 ∧ 0 < turnAt a b X.x2 X.y2)
  below : ¬ (turnAt a b X.x X.y < 0 ∧ turnAt a b X.x2 X.y < 0 ∧ turnAt a b X.x X.y2 < 0 ∧ turnAt a b X.x2 X.y2 < 0)

/-! ### The side of a point, as a function of its coordinates -/
def A (a b : Pt) : Int := a.y - b.y
def B (a b : Pt) : Int := b.x - a.x
def C (a b : Pt) : Int := -(B a b * a.y) - A a b * a.x
theorem turn_eq (a b : Pt) (x y : Int) : turnAt a b x y = A a b * x + B a b * y + C a b := by
  unfold turnAt turn C A B
  simp only [Int.mul_sub, Int.sub_mul]
  omega
theorem turn_a (a b : Pt) : A a b * a.x + B a b * a.y + C a b = 0 := by unfold C; omega
theorem turn_b (a b : Pt) : A a b * b.x + B a b * b.y + C a b = 0 := by
  unfold C A B
  simp only [Int.sub_mul]
  have h1 := Int.mul_comm a.y b.x
  have h2 := Int.mul_comm b.y b.x
  have h3 := Int.mul_comm b.y a.x
  have h4 := Int.mul_comm a.y a.x
  omega
theorem turn_swap (a b : Pt) (x y : Int) : turnAt b a x y = - turnAt a b x y := by
  have h1 := turn_eq a b x y
  have h2 := turn_eq b a x y
  have e1 : A b a * x = - (A a b * x) := by rw [← Int.neg_mul]; congr 1; unfold A; omega
  have e2 : B b a * y = - (B a b * y) := by rw [← Int.neg_mul]; congr 1; unfold B; omega
  have e3 : C b a = - C a b := by
    have k1 := turn_a b a
    have k2 := turn_b a b
    have e4 : A b a * b.x = - (A a b * b.x) := by rw [← Int.neg_mul]; congr 1; unfold A; omega
    have e5 : B b a * b.y = - (B a b * b.y) := by rw [← Int.neg_mul]; congr 1; unfold B; omega
    omega
  omega
theorem turn_turned (a b : Pt) (x y : Int) : turnAt ⟨a.y, a.x⟩ ⟨b.y, b.x⟩ y x = - turnAt a b x y := by
  unfold turnAt turn
  simp only
  omega
theorem turn_back (a b : Pt) (m x y : Int) : turnAt ⟨m - a.x, a.y⟩ ⟨m - b.x, b.y⟩ (m - x) y = - turnAt a b x y := by
  unfold turnAt turn
  simp only
  rw [show m - b.x - (m - a.x) = -(b.x - a.x) by omega, show m - x - (m - a.x) = -(x - a.x) by omega, Int.neg_mul, Int.mul_neg]
  omega
theorem turn_move (a b : Pt) (u v x y : Int) : turnAt ⟨a.x + u, a.y + v⟩ ⟨b.x + u, b.y + v⟩ (x + u) (y + v) = turnAt a b x y := by
  unfold turnAt turn
  simp only
  rw [show b.x + u - (a.x + u) = b.x - a.x by omega, show y + v - (a.y + v) = y - a.y by omega, show b.y + v - (a.y + v) = b.y - a.y by omega, show x + u - (a.x + u) = x - a.x by omega]

/-! ### Symmetry, moves -/
theorem cr_swap {a b : Pt} {X : Bx} (h : Cr a b X) : Cr b a X := by
  refine ⟨h.wide, h.high, h.left.symm, h.right.symm, h.low.symm, h.top.symm, fun k => h.below ?_, fun k => h.above ?_⟩ <;>
    · simp only [turn_swap a b] at k
      omega
theorem cr_turned {a b : Pt} {X : Bx} (h : Cr a b X) : Cr ⟨a.y, a.x⟩ ⟨b.y, b.x⟩ ⟨X.y, X.x, X.y2, X.x2⟩ := by
  refine ⟨h.high, h.wide, h.low, h.top, h.left, h.right, fun k => h.below ?_, fun k => h.above ?_⟩ <;>
    · simp only [turn_turned] at k
      omega
theorem cr_back {a b : Pt} {X : Bx} (m : Int) (h : Cr a b X) : Cr ⟨m - a.x, a.y⟩ ⟨m - b.x, b.y⟩ ⟨m - X.x2, X.y, m - X.x, X.y2⟩ := by
  have h1 := h.left; have h2 := h.right; have h3 := h.wide
  refine ⟨by simp only; omega, h.high, by simp only; omega, by simp only; omega, h.low, h.top, fun k => h.below ?_, fun k => h.above ?_⟩ <;>
    · simp only [turn_back] at k
      omega
theorem cr_move {a b : Pt} {X : Bx} (u v : Int) : Cr ⟨a.x + u, a.y + v⟩ ⟨b.x + u, b.y + v⟩ ⟨X.x + u, X.y + v, X.x2 + u, X.y2 + v⟩ ↔ Cr a b X := by
  constructor
  · intro ⟨h1, h2, h3, h4, h5, h6, h7, h8⟩
    simp only [turn_move] at h1 h2 h3 h4 h5 h6 h7 h8
    exact ⟨by omega, by omega, by omega, by omega, by omega, by omega, h7, h8⟩
  · intro ⟨h1, h2, h3, h4, h5, h6, h7, h8⟩
    refine ⟨by simp only; omega, by simp only; omega, by simp only; omega, by simp only; omega, by simp only; omega, by simp only; omega, ?_, ?_⟩
    · simp only [turn_move]; exact h7
    · simp only [turn_move]; exact h8

/-! ### What lies between -/
theorem between (m : Int) {lo v hi : Int} (h1 : lo ≤ v) (h2 : v ≤ hi) : m * lo ≤ m * v ∨ m * hi ≤ m * v := by
  rcases Int.le_total 0 m with h | h
  · exact Or.inl (Int.mul_le_mul_of_nonneg_left h1 h)
  · exact Or.inr (Int.mul_le_mul_of_nonpos_left h h2)
theorem between' (m : Int) {lo v hi : Int} (h1 : lo ≤ v) (h2 : v ≤ hi) : m * v ≤ m * lo ∨ m * v ≤ m * hi := by
  rcases Int.le_total 0 m with h | h
  · exact Or.inr (Int.mul_le_mul_of_nonneg_left h2 h)
  · exact Or.inl (Int.mul_le_mul_of_nonpos_left h h1)
/-- A line that crosses a rectangle crosses one that contains it. -/
theorem cr_wider {a b : Pt} {X W : Bx} (h : Cr a b X) (h1 : W.x ≤ X.x) (h2 : W.y ≤ X.y) (h3 : X.x2 ≤ W.x2) (h4 : X.y2 ≤ W.y2) : Cr a b W := by
  obtain ⟨k1, k2, k3, k4, k5, k6, k7, k8⟩ := h
  refine ⟨by omega, by omega, by omega, by omega, by omega, by omega, fun k => k7 ?_, fun k => k8 ?_⟩
  · simp only [turn_eq] at k ⊢
    have e1 := between (A a b) h1 (show X.x ≤ W.x2 by omega)
    have e2 := between (A a b) (show W.x ≤ X.x2 by omega) h3
    have e3 := between (B a b) h2 (show X.y ≤ W.y2 by omega)
    have e4 := between (B a b) (show W.y ≤ X.y2 by omega) h4
    omega
  · simp only [turn_eq] at k ⊢
    have e1 := between' (A a b) h1 (show X.x ≤ W.x2 by omega)
    have e2 := between' (A a b) (show W.x ≤ X.x2 by omega) h3
    have e3 := between' (B a b) h2 (show X.y ≤ W.y2 by omega)
    have e4 := between' (B a b) (show W.y ≤ X.y2 by omega) h4
    omega
/-- An end of the line in the rectangle. -/
theorem cr_end {a b : Pt} {X : Bx} (h1 : X.x ≤ a.x) (h2 : a.x ≤ X.x2) (h3 : X.y ≤ a.y) (h4 : a.y ≤ X.y2) : Cr a b X := by
  have z := turn_a a b
  have e1 := between (A a b) h1 h2
  have e2 := between (B a b) h3 h4
  have f1 := between' (A a b) h1 h2
  have f2 := between' (B a b) h3 h4
  refine ⟨by omega, by omega, Or.inl h1, Or.inl h2, Or.inl h3, Or.inl h4, fun k => ?_, fun k => ?_⟩ <;>
    · simp only [turn_eq] at k
      omega
/-- The middle of the line in the rectangle. -/
theorem cr_middle {a b : Pt} {X : Bx} (h1 : 2 * X.x ≤ a.x + b.x) (h2 : a.x + b.x ≤ 2 * X.x2) (h3 : 2 * X.y ≤ a.y + b.y) (h4 : a.y + b.y ≤ 2 * X.y2) : Cr a b X := by
  have z := turn_a a b
  have z2 := turn_b a b
  have e1 := between (A a b) h1 h2
  have e2 := between (B a b) h3 h4
  have f1 := between' (A a b) h1 h2
  have f2 := between' (B a b) h3 h4
  have m : ∀ u v : Int, u * (2 * v) = 2 * (u * v) := fun u v => by rw [← Int.mul_assoc, Int.mul_comm u 2, Int.mul_assoc]
  simp only [m, Int.mul_add] at e1 e2 f1 f2
  refine ⟨by omega, by omega, by omega, by omega, by omega, by omega, fun k => ?_, fun k => ?_⟩ <;>
    · simp only [turn_eq] at k
      omega

/-! ### Division -/
/-- The line lies beyond k, the part beyond k on one side of it, and the part before k not. -/
theorem beyond {p q r k x y y2 ax ay bx by_ : Int} (hx : x ≤ k) (ha : k ≤ ax) (hb : k ≤ bx) (h1 : 0 < p * k + q * y + r) (h2 : 0 < p * k + q * y2 + r) (fa : p * ax + q * ay + r = 0) (fb : p * bx + q * by_ + r = 0)
    (hn : p * x + q * y + r ≤ 0 ∨ p * x + q * y2 + r ≤ 0) (o1 : y ≤ ay ∨ y ≤ by_) (o2 : ay ≤ y2 ∨ by_ ≤ y2) : False := by
  have hp : 0 < p := by
    rcases Int.lt_or_le 0 p with h | h
    · exact h
    · have := Int.mul_le_mul_of_nonpos_left h hx
      omega
  have g1 := Int.mul_le_mul_of_nonneg_left ha (Int.le_of_lt hp)
  have g2 := Int.mul_le_mul_of_nonneg_left hb (Int.le_of_lt hp)
  rcases Int.lt_trichotomy 0 q with h | h | h
  · have c1 : ay < y := Int.lt_of_mul_lt_mul_left (a := q) (by omega) (Int.le_of_lt h)
    have c2 : by_ < y := Int.lt_of_mul_lt_mul_left (a := q) (by omega) (Int.le_of_lt h)
    omega
  · subst h
    simp only [Int.zero_mul] at *
    omega
  · have c : ∀ v, q * v < q * y2 → y2 < v := fun v hv => by
      rcases Int.lt_or_le y2 v with k | k
      · exact k
      · have := Int.mul_le_mul_of_nonpos_left (Int.le_of_lt h) k
        omega
    have c1 := c ay (by omega)
    have c2 := c by_ (by omega)
    omega
set_option maxHeartbeats 4000000 in
theorem cr_parts {a b : Pt} {X : Bx} (h : Cr a b X) {k : Int} (h1 : X.x ≤ k) (h2 : k ≤ X.x2) : Cr a b ⟨X.x, X.y, k, X.y2⟩ ∨ Cr a b ⟨k, X.y, X.x2, X.y2⟩ := by
  obtain ⟨k1, k2, k3, k4, k5, k6, k7, k8⟩ := h
  have za := turn_a a b
  have zb := turn_b a b
  simp only [turn_eq] at k7 k8
  have nm : ∀ u v : Int, (-u) * v = -(u * v) := Int.neg_mul
  have mn : ∀ u v : Int, u * (-v) = -(u * v) := Int.mul_neg
  -- the line beyond k, or before it, on either side
  have b1 := @beyond (A a b) (B a b) (C a b) k X.x X.y X.y2 a.x a.y b.x b.y h1
  have b2 := @beyond (-A a b) (-B a b) (-C a b) k X.x X.y X.y2 a.x a.y b.x b.y h1
  have b3 := @beyond (-A a b) (B a b) (C a b) (-k) (-X.x2) X.y X.y2 (-a.x) a.y (-b.x) b.y (by omega)
  have b4 := @beyond (A a b) (-B a b) (-C a b) (-k) (-X.x2) X.y X.y2 (-a.x) a.y (-b.x) b.y (by omega)
  simp only [nm, mn, Int.neg_neg] at b2 b3 b4
  by_cases l1 : a.x ≤ k ∨ b.x ≤ k
  · by_cases l2 : k ≤ a.x ∨ k ≤ b.x
    · by_cases g : (0 < A a b * X.x + B a b * X.y + C a b ∧ 0 < A a b * k + B a b * X.y + C a b ∧ 0 < A a b * X.x + B a b * X.y2 + C a b ∧ 0 < A a b * k + B a b * X.y2 + C a b) ∨
          (A a b * X.x + B a b * X.y + C a b < 0 ∧ A a b * k + B a b * X.y + C a b < 0 ∧ A a b * X.x + B a b * X.y2 + C a b < 0 ∧ A a b * k + B a b * X.y2 + C a b < 0)
      · refine Or.inr ⟨h2, k2, l2, k4, k5, k6, fun e => ?_, fun e => ?_⟩
        · simp only [turn_eq] at e
          rcases g with g | g
          · exact k7 ⟨g.1, e.2.1, g.2.2.1, e.2.2.2⟩
          · exact absurd e.1 (Int.not_lt.2 (Int.le_of_lt g.2.1))
        · simp only [turn_eq] at e
          rcases g with g | g
          · exact absurd e.1 (Int.not_lt.2 (Int.le_of_lt g.2.1))
          · exact k8 ⟨g.1, e.2.1, g.2.2.1, e.2.2.2⟩
      · refine Or.inl ⟨h1, k2, k3, l1, k5, k6, fun e => ?_, fun e => ?_⟩
        · simp only [turn_eq] at e
          exact g (Or.inl e)
        · simp only [turn_eq] at e
          exact g (Or.inr e)
    · refine Or.inl ⟨h1, k2, k3, l1, k5, k6, fun e => ?_, fun e => ?_⟩
      · simp only [turn_eq] at e
        clear b1 b2 b4 k8
        exact b3 (by omega) (by omega) (by omega) (by omega) (by omega) (by omega) (by omega) k5 k6
      · simp only [turn_eq] at e
        clear b1 b2 b3 k7
        exact b4 (by omega) (by omega) (by omega) (by omega) (by omega) (by omega) (by omega) k5 k6
  · refine Or.inr ⟨h2, k2, Or.inl (by show k ≤ a.x; omega), k4, k5, k6, fun e => ?_, fun e => ?_⟩
    · simp only [turn_eq] at e
      clear b2 b3 b4 k8
      exact b1 (by omega) (by omega) (by omega) (by omega) za zb (by omega) k5 k6
    · simp only [turn_eq] at e
      clear b1 b3 b4 k7
      exact b2 (by omega) (by omega) (by omega) (by omega) (by omega) (by omega) (by omega) k5 k6
/-- A line crosses a rectangle exactly if it crosses one of the two parts. -/
theorem cr_divided {a b : Pt} {X : Bx} {k : Int} (h1 : X.x ≤ k) (h2 : k ≤ X.x2) : Cr a b X ↔ Cr a b ⟨X.x, X.y, k, X.y2⟩ ∨ Cr a b ⟨k, X.y, X.x2, X.y2⟩ :=
  ⟨fun h => cr_parts h h1 h2, fun h => h.elim (fun h => cr_wider h (Int.le_refl _) (Int.le_refl _) h2 (Int.le_refl _)) (fun h => cr_wider h h1 (Int.le_refl _) (Int.le_refl _) (Int.le_refl _))⟩
theorem cr_divided_y {a b : Pt} {X : Bx} {k : Int} (h1 : X.y ≤ k) (h2 : k ≤ X.y2) : Cr a b X ↔ Cr a b ⟨X.x, X.y, X.x2, k⟩ ∨ Cr a b ⟨X.x, k, X.x2, X.y2⟩ := by
  have h := @cr_divided ⟨a.y, a.x⟩ ⟨b.y, b.x⟩ ⟨X.y, X.x, X.y2, X.x2⟩ k h1 h2
  constructor
  · intro e
    exact (h.1 (cr_turned e)).imp cr_turned cr_turned
  · intro e
    exact cr_turned (h.2 (e.imp cr_turned cr_turned))

/-! ### The answers -/
theorem cr_iff (a b : Pt) (X : Bx) : Cr a b X ↔ (X.x ≤ X.x2 ∧ X.y ≤ X.y2 ∧ (X.x ≤ a.x ∨ X.x ≤ b.x) ∧ (a.x ≤ X.x2 ∨ b.x ≤ X.x2) ∧ (X.y ≤ a.y ∨ X.y ≤ b.y) ∧ (a.y ≤ X.y2 ∨ b.y ≤ X.y2) ∧
    ¬ (0 < turnAt a b X.x X.y ∧ 0 < turnAt a b X.x2 X.y ∧ 0 < turnAt a b X.x X.y2 ∧ 0 < turnAt a b X.x2 X.y2) ∧
    ¬ (turnAt a b X.x X.y < 0 ∧ turnAt a b X.x2 X.y < 0 ∧ turnAt a b X.x X.y2 < 0 ∧ turnAt a b X.x2 X.y2 < 0)) :=
  ⟨fun h => ⟨h.wide, h.high, h.left, h.right, h.low, h.top, h.above, h.below⟩, fun ⟨h1, h2, h3, h4, h5, h6, h7, h8⟩ => ⟨h1, h2, h3, h4, h5, h6, h7, h8⟩⟩
instance (a b : Pt) (X : Bx) : Decidable (Cr a b X) := decidable_of_iff _ (cr_iff a b X).symm
/-- All numbers of the points and the rectangle are coordinates. -/
def AllCo (a b : Pt) (X : Bx) : Prop := ∀ n ∈ [a.x, a.y, b.x, b.y, X.x, X.y, X.x2, X.y2], coord n
instance (a b : Pt) (X : Bx) : Decidable (AllCo a b X) := inferInstanceAs (Decidable (∀ n ∈ [a.x, a.y, b.x, b.y, X.x, X.y, X.x2, X.y2], coord n))
/-- What Crosses answers. -/
def cross (a b : Pt) (X : Bx) : Bool := decide (AllCo a b X) && decide (Cr a b X)

/-! ### Views -/
open Foyer.Hall (HallZ LevelZ)
def bump (c : Bool) (v : Int) : Int := if c && decide (v < 3) then v + 1 else v
def dist (p s : Pt) (h : Int) : Int := (p.x - s.x) * (p.x - s.x) + (p.y - s.y) * (p.y - s.y) + h * h
def views (p s : Pt) (l : List Bx) (v : Int) : Int := l.foldl (fun v x => bump (cross p s x) v) v
def CoV (s : Pt) (h : Int) (p : Pt) : Prop := ∀ n ∈ [p.x, p.y, s.x, s.y, h], coord n
instance (s : Pt) (h : Int) (p : Pt) : Decidable (CoV s h p) := inferInstanceAs (Decidable (∀ n ∈ [p.x, p.y, s.x, s.y, h], coord n))
def far (p s : Pt) (h : Int) : Int := bump (decide (9000000 < dist p s h)) (bump (decide (1000000 < dist p s h)) 0)
def viewL (s : Pt) (l : LevelZ) (p : Pt) : Int := if CoV s l.height p then views p s l.pillars (far p s l.height) else 3
def view (h : HallZ) (k : Int) (p : Pt) : Int := if 0 ≤ k then (match h.levels[k.toNat]? with | some l => viewL h.stage l p | none => 3) else 3
theorem bump_range {c : Bool} {v : Int} (h1 : 0 ≤ v) (h2 : v ≤ 3) : 0 ≤ bump c v ∧ bump c v ≤ 3 := by
  unfold bump
  cases c
  · simpa using ⟨h1, h2⟩
  · by_cases h : v < 3
    · simp [h]; omega
    · simp [h]; omega
theorem views_range (p s : Pt) : ∀ (l : List Bx) (v : Int), 0 ≤ v → v ≤ 3 → 0 ≤ views p s l v ∧ views p s l v ≤ 3
  | [], _, h1, h2 => ⟨h1, h2⟩
  | _ :: r, _, h1, h2 => views_range p s r _ (bump_range h1 h2).1 (bump_range h1 h2).2
theorem far_range (p s : Pt) (h : Int) : 0 ≤ far p s h ∧ far p s h ≤ 3 :=
  bump_range (bump_range (by decide) (by decide)).1 (bump_range (by decide) (by decide)).2
theorem views_step (p s : Pt) {l : List Bx} {k : Nat} {x : Bx} (hx : l[k]? = some x) (v : Int) : views p s (l.take (k + 1)) v = bump (cross p s x) (views p s (l.take k) v) := by
  obtain ⟨h1, h2⟩ := List.getElem?_eq_some_iff.1 hx
  rw [List.take_succ_eq_append_getElem h1, h2]
  unfold views
  rw [List.foldl_append]
  rfl
theorem view_range (h : HallZ) (k : Int) (p : Pt) : 0 ≤ view h k p ∧ view h k p ≤ 3 := by
  unfold view
  split
  · split
    · unfold viewL
      split
      · exact views_range _ _ _ _ (far_range _ _ _).1 (far_range _ _ _).2
      · decide
    · decide
  · decide
end Foyer.Sight
