/-
  The promises about lines and rectangles, of the answers themselves.
-/
import Derived.Test.YtdmancneccfgeaaMathSight
namespace Foyer.Sight

theorem allCo_mk {a b : Pt} {X : Bx} (h1 : coord a.x) (h2 : coord a.y) (h3 : coord b.x) (h4 : coord b.y) (h5 : coord X.x) (h6 : coord X.y) (h7 : coord X.x2) (h8 : coord X.y2) : AllCo a b X := by
  intro n hn
  simp only [List.mem_cons, List.not_mem_nil, or_false] at hn
  rcases hn with rfl | rfl | rfl | rfl | rfl | rfl | rfl | rfl <;> assumption
theorem cross_of {a b : Pt} {X : Bx} (h : AllCo a b X) : cross a b X = decide (Cr a b X) := by unfold cross; rw [decide_eq_true h, Bool.true_and]
theorem cross_same {a b a' b' : Pt} {X X' : Bx} (h : AllCo a b X) (h' : AllCo a' b' X') (k : Cr a' b' X' ↔ Cr a b X) : cross a' b' X' = cross a b X := by
  rw [cross_of h, cross_of h']
  exact decide_eq_decide.2 k
section
variable {ax ay bx by_ x y x2 y2 : Int} (h1 : coord ax) (h2 : coord ay) (h3 : coord bx) (h4 : coord by_) (h5 : coord x) (h6 : coord y) (h7 : coord x2) (h8 : coord y2)
include h1 h2 h3 h4 h5 h6 h7 h8
theorem cross_swap : cross ⟨bx, by_⟩ ⟨ax, ay⟩ ⟨x, y, x2, y2⟩ = cross ⟨ax, ay⟩ ⟨bx, by_⟩ ⟨x, y, x2, y2⟩ :=
  cross_same (allCo_mk h1 h2 h3 h4 h5 h6 h7 h8) (allCo_mk h3 h4 h1 h2 h5 h6 h7 h8) ⟨cr_swap, cr_swap⟩
theorem cross_turned : cross ⟨ay, ax⟩ ⟨by_, bx⟩ ⟨y, x, y2, x2⟩ = cross ⟨ax, ay⟩ ⟨bx, by_⟩ ⟨x, y, x2, y2⟩ :=
  cross_same (allCo_mk h1 h2 h3 h4 h5 h6 h7 h8) (allCo_mk h2 h1 h4 h3 h6 h5 h8 h7) ⟨fun h => cr_turned h, fun h => cr_turned h⟩
theorem cross_back : cross ⟨10000 - ax, ay⟩ ⟨10000 - bx, by_⟩ ⟨10000 - x2, y, 10000 - x, y2⟩ = cross ⟨ax, ay⟩ ⟨bx, by_⟩ ⟨x, y, x2, y2⟩ := by
  have k : ∀ n, coord n → coord (10000 - n) := fun n h => by unfold coord at *; omega
  refine cross_same (allCo_mk h1 h2 h3 h4 h5 h6 h7 h8) (allCo_mk (k _ h1) h2 (k _ h3) h4 (k _ h7) h6 (k _ h5) h8) ⟨fun h => ?_, fun h => cr_back 10000 h⟩
  have := cr_back 10000 h
  simp only [Int.sub_sub_self] at this
  exact this
end
theorem cross_moved {ax ay bx by_ x y x2 y2 u v : Int} (h : AllCo ⟨ax, ay⟩ ⟨bx, by_⟩ ⟨x, y, x2, y2⟩) (h' : AllCo ⟨ax + u, ay + v⟩ ⟨bx + u, by_ + v⟩ ⟨x + u, y + v, x2 + u, y2 + v⟩) :
    cross ⟨ax + u, ay + v⟩ ⟨bx + u, by_ + v⟩ ⟨x + u, y + v, x2 + u, y2 + v⟩ = cross ⟨ax, ay⟩ ⟨bx, by_⟩ ⟨x, y, x2, y2⟩ :=
  cross_same h h' (@cr_move ⟨ax, ay⟩ ⟨bx, by_⟩ ⟨x, y, x2, y2⟩ u v)
theorem cross_wider {a b : Pt} {X W : Bx} (hw : AllCo a b W) (h : cross a b X = true) (h1 : W.x ≤ X.x) (h2 : W.y ≤ X.y) (h3 : X.x2 ≤ W.x2) (h4 : X.y2 ≤ W.y2) : cross a b W = true := by
  unfold cross at h
  simp only [Bool.and_eq_true, decide_eq_true_eq] at h
  rw [cross_of hw]
  exact decide_eq_true (cr_wider h.2 h1 h2 h3 h4)
theorem cross_divided {a b : Pt} {X : Bx} {k : Int} (h : AllCo a b X) (hk : coord k) (h1 : X.x ≤ k) (h2 : k ≤ X.x2) : cross a b X = (cross a b ⟨X.x, X.y, k, X.y2⟩ || cross a b ⟨k, X.y, X.x2, X.y2⟩) := by
  have g : ∀ n, n ∈ [a.x, a.y, b.x, b.y, X.x, X.y, X.x2, X.y2] → coord n := h
  rw [cross_of h, cross_of (X := ⟨X.x, X.y, k, X.y2⟩) (allCo_mk (g _ (by simp)) (g _ (by simp)) (g _ (by simp)) (g _ (by simp)) (g _ (by simp)) (g _ (by simp)) hk (g _ (by simp))),
    cross_of (X := ⟨k, X.y, X.x2, X.y2⟩) (allCo_mk (g _ (by simp)) (g _ (by simp)) (g _ (by simp)) (g _ (by simp)) hk (g _ (by simp)) (g _ (by simp)) (g _ (by simp))), ← Bool.decide_or]
  exact decide_eq_decide.2 (cr_divided h1 h2)
theorem cross_divided_y {a b : Pt} {X : Bx} {k : Int} (h : AllCo a b X) (hk : coord k) (h1 : X.y ≤ k) (h2 : k ≤ X.y2) : cross a b X = (cross a b ⟨X.x, X.y, X.x2, k⟩ || cross a b ⟨X.x, k, X.x2, X.y2⟩) := by
  have g : ∀ n, n ∈ [a.x, a.y, b.x, b.y, X.x, X.y, X.x2, X.y2] → coord n := h
  rw [cross_of h, cross_of (X := ⟨X.x, X.y, X.x2, k⟩) (allCo_mk (g _ (by simp)) (g _ (by simp)) (g _ (by simp)) (g _ (by simp)) (g _ (by simp)) (g _ (by simp)) (g _ (by simp)) hk),
    cross_of (X := ⟨X.x, k, X.x2, X.y2⟩) (allCo_mk (g _ (by simp)) (g _ (by simp)) (g _ (by simp)) (g _ (by simp)) (g _ (by simp)) hk (g _ (by simp)) (g _ (by simp))), ← Bool.decide_or]
  exact decide_eq_decide.2 (cr_divided_y h1 h2)
end Foyer.Sight
