/-
  What a further pillar, and a greater height, do to a view; lists of levels that a call made, one cell of which is written anew.
-/
import Derived.Test.YtdmancneccfgeaaRef9
import Derived.Test.YtdmancneccfgeaaListApp
import Derived.Test.YtdmancneccfgeaaBegin9
namespace Foyer.Sight
open Foyer.Hall (HallZ LevelZ)

/-- A level with one pillar more; with another height. -/
def plus (l : LevelZ) (x : Bx) : LevelZ := { l with pillars := l.pillars ++ [x] }
def high (l : LevelZ) (n : Int) : LevelZ := { l with height := n }
theorem view_set_same {h : HallZ} {i : Nat} {l l' : LevelZ} (hl : h.levels[i]? = some l) (p : Pt) : view { h with levels := h.levels.set i l' } i p = viewL h.stage l' p := by
  unfold view
  rw [if_pos (by omega), Int.toNat_natCast]
  simp only [List.getElem?_set_self ((List.getElem?_eq_some_iff.1 hl).1)]
theorem view_set_other {h : HallZ} {i k : Nat} (hik : k ≠ i) {l' : LevelZ} (p : Pt) : view { h with levels := h.levels.set i l' } k p = view h k p := by
  unfold view
  rw [if_pos (by omega), if_pos (by omega), Int.toNat_natCast]
  simp only [List.getElem?_set_ne (Ne.symm hik)]
theorem view_at {h : HallZ} {i : Nat} {l : LevelZ} (hl : h.levels[i]? = some l) (p : Pt) : view h i p = viewL h.stage l p := by
  unfold view
  rw [if_pos (by omega), Int.toNat_natCast, hl]
theorem viewL_range (s : Pt) (l : LevelZ) (p : Pt) : 0 ≤ viewL s l p ∧ viewL s l p ≤ 3 := by
  unfold viewL
  split
  · exact views_range _ _ _ _ (far_range _ _ _).1 (far_range _ _ _).2
  · decide
theorem viewL_plus (s : Pt) (l : LevelZ) (x : Bx) (p : Pt) : viewL s (plus l x) p = bump (cross p s x) (viewL s l p) := by
  unfold viewL plus
  simp only
  split
  · unfold views
    rw [List.foldl_append]
    rfl
  · unfold bump
    simp
theorem bump_mono {c : Bool} {v v' : Int} (h : v ≤ v') : bump c v ≤ bump c v' := by
  unfold bump
  cases c
  · simpa using h
  · by_cases h1 : v < 3
    · by_cases h2 : v' < 3
      · simp [h1, h2]; omega
      · simp [h1, h2]; omega
    · have h2 : ¬ v' < 3 := by omega
      simp [h1, h2]; omega
theorem bump_grow {c c' : Bool} (hc : c = true → c' = true) (v : Int) : bump c v ≤ bump c' v := by
  cases c
  · unfold bump
    cases c'
    · simp
    · by_cases h : v < 3
      · simp [h]; omega
      · simp [h]
  · rw [hc rfl]; exact Int.le_refl _
theorem views_mono (p s : Pt) : ∀ (l : List Bx) {v v' : Int}, v ≤ v' → views p s l v ≤ views p s l v'
  | [], _, _, h => h
  | _ :: r, _, _, h => views_mono p s r (bump_mono h)
theorem far_mono (p s : Pt) {n n' : Int} (h0 : 0 ≤ n) (h : n ≤ n') : far p s n ≤ far p s n' := by
  have hd : dist p s n ≤ dist p s n' := by
    unfold dist
    have : n * n ≤ n' * n' := Int.mul_le_mul h h h0 (by omega)
    omega
  unfold far
  refine Int.le_trans (bump_mono (bump_grow (fun h => ?_) 0)) (bump_grow (fun h => ?_) _)
  · exact decide_eq_true (Int.lt_of_lt_of_le (of_decide_eq_true h) hd)
  · exact decide_eq_true (Int.lt_of_lt_of_le (of_decide_eq_true h) hd)
/-- A greater height does not improve a view. -/
theorem viewL_high (s : Pt) (l : LevelZ) (p : Pt) (n : Int) (hn : coord n) (h : ¬ l.height < 0) : viewL s l p ≤ viewL s (high l (max l.height n)) p := by
  by_cases h2 : CoV s (max l.height n) p
  · have g : ∀ k, k ∈ [p.x, p.y, s.x, s.y, max l.height n] → coord k := h2
    have g5 := g (max l.height n) (by simp)
    have h1 : CoV s l.height p := by
      intro k hk
      simp only [List.mem_cons, List.not_mem_nil, or_false] at hk
      rcases hk with rfl | rfl | rfl | rfl | rfl
      · exact g _ (by simp)
      · exact g _ (by simp)
      · exact g _ (by simp)
      · exact g _ (by simp)
      · unfold coord at *; omega
    unfold viewL high
    simp only
    rw [if_pos h1, if_pos h2]
    exact views_mono p s _ (far_mono p s (by omega) (by omega))
  · have := (viewL_range s l p).2
    unfold viewL high at *
    simp only at *
    rw [if_neg h2]
    exact this
theorem want_eq (c : Bool) {v : Int} : bump c v = if v < 3 ∧ c = true then v + 1 else v := by
  unfold bump
  cases c
  · simp
  · by_cases h : v < 3
    · simp [h]
    · simp [h]
end Foyer.Sight
namespace Go.Proofs.Ytdmancneccfgeaa.Hl
open Go.RowKit Go.Sort Foyer.Hall

theorem info_of {P : Program} {T : TypeId} {z : Option Value} {m b : Nat} (h : (P.info? T).map (fun i => (i.zero, i.size, i.bytes)) = some (z, m, b)) : ∃ i, P.info? T = some i ∧ i.zero = z ∧ i.size = m ∧ i.bytes = b := by
  cases hi : P.info? T with
  | none => rw [hi] at h; cases h
  | some i => rw [hi] at h; simp only [Option.map_some, Option.some.injEq, Prod.mk.injEq] at h; exact ⟨i, rfl, h.1, h.2.1, h.2.2⟩
theorem level_info : ((Try.prog.info? 51).map (fun i => (i.zero, i.size, i.bytes))) = some (some (.agg #[.string ⟨#[]⟩, .int .i64 0, .slice none 0 0, .slice none 0 0, .slice none 0 0, .slice none 0 0, .slice none 0 0, .int .i64 0]), levelL.size, 152) := by kernel_rfl
theorem box_info : ((Try.prog.info? 25).map (fun i => (i.zero, i.size, i.bytes))) = some (some (.agg #[.int .i64 0, .int .i64 0, .int .i64 0, .int .i64 0]), boxL.size, 32) := by kernel_rfl
theorem src_blk {w : World} {B b : Nat} {T : TypeId} {x : BoxZ} (h : Blk w b T (boxZC x)) : Src boxL w B (.slice (some ⟨b, 0, none⟩) 1 1) [x] := by
  refine ⟨_, 1, rfl, Nat.le_refl _, by unfold maxLen; omega, Or.inr ⟨_, _, rfl, fun i y hy => ?_⟩⟩
  match i, hy with
  | 0, hy =>
    cases hy
    exact ⟨_, rfl, fun j u hj => by rw [Nat.zero_mul, Nat.zero_add]; exact h.cell hj⟩
theorem oper_appends_lk {α : Type} {K : Look α} {w : World} {B T t bytes : Nat} {i0 : TypeInfo} {z : Value} (ht : Try.prog.underlying t = some (.slice T)) (hi : Try.prog.info? T = some i0) (hz0 : i0.zero = some z) (hz1 : i0.size = K.size) (hz2 : i0.bytes = bytes) (hzs : z.cells.size = K.size) (hm : 0 < K.size) (hby : bytes ≤ 200)
    {o : Oper} {a : Act} {Kn : Act → World → Prop} {Q : Exit → Act → World → Prop} (s x : Operand)
    (hop : o.op = Op.call { callee := Callee.builtin Builtin.append, args := #[s, x], argTypes := #[t, t] })
    (v src : Value) (xs ys : List α) (hs : a.eval s = v) (hx : a.eval x = src) (hv : Made K w B T v xs) (hsrc : Src K w B src ys) (hlen : xs.length + ys.length ≤ 1000000) (hB : B ≤ w.heap.size)
    (hK : ∀ v' w', Made K w' B T v' (xs ++ ys) → w.grownBy w' v.ownBlock → (v'.ownBlock = v.ownBlock ∨ v'.ownBlock = some w.heap.size) → Kn (a.put o.dst v') w') : Oper.wp Try.prog o a w Kn Q := by
  obtain ⟨v', w', hr, h2, h3, h4⟩ := appends_lk ht hi hz0 hz1 hz2 hzs hm hby o.type v src xs ys hv hsrc hlen hB
  unfold Oper.wp execOp
  simp only [hop, resolve, invoke, builtin, Sem.run_bind, Sem.run_pure, Result.andThen_ok, List.map_toArray, List.map_cons, List.map_nil, hs, hx, hr]
  exact hK _ _ h2 h3 h4
/-- One cell of a list that the call made, written anew. -/
theorem made_set {w : World} {B B' g n cap i k : Nat} {T : TypeId} {xs : List LevelZ} {x x' : LevelZ} {u : Value} (h : Made levelL w B T (.slice (some ⟨g, 0, none⟩) n cap) xs) (hB : B ≤ g) (hg : g < B') (hBB : B ≤ B') (hx : xs[i]? = some x) (hk : k < 8)
    (hi : ∀ c, levelL.is w B c x → levelL.is (w.setCell ⟨g, i * 8 + k, none⟩ u) B' (c.set k u) x') :
    Lk levelL (w.setCell ⟨g, i * 8 + k, none⟩ u) B' (.slice (some ⟨g, 0, none⟩) n cap) (xs.set i x') := by
  have keep : ∀ q, q < B → (w.setCell ⟨g, i * 8 + k, none⟩ u).heap[q]? = w.heap[q]? := fun q hq => Below.heap_setCell _ _ _ _ (show q ≠ g by omega)
  obtain ⟨css, h1, h2, h3⟩ := h
  rcases h1.form with ⟨hv, _⟩ | ⟨g', cap', cur, hv, hB', hg', hcur, hc1, hc2, hcell⟩
  · cases hv
  · injection hv with e1 e2 e3
    injection e1 with e1
    injection e1 with e1
    subst e1 e3
    refine ⟨_, cap, by rw [List.length_set, ← h2, e2], by rw [List.length_set]; omega, hc2, Or.inr ⟨g, 0, rfl, hg, fun j y hy => ?_⟩⟩
    have hfree : ∀ t v, w.cell? ⟨g, t, none⟩ = some v → t ≠ i * 8 + k → (w.setCell ⟨g, i * 8 + k, none⟩ u).cell? ⟨g, t, none⟩ = some v := fun t v hv ht => by
      have hb : Blk (w.setCell ⟨g, i * 8 + k, none⟩ u) g T (cur.toList.set (i * 8 + k) u) := Blk.set (show Blk w g T cur.toList from by unfold Blk; rw [hcur]) (i * 8 + k) u
      have h0 : cur.toList[t]? = some v := by
        have hc : Blk w g T cur.toList := by unfold Blk; rw [hcur]
        unfold World.cell? at hv
        rw [show w.heap[(⟨g, t, none⟩ : Addr).block]? = _ from hcur] at hv
        simpa using hv
      exact hb.cell (by rw [List.getElem?_set_ne (Ne.symm ht)]; exact h0)
    have hnew : ∀ v0, w.cell? ⟨g, i * 8 + k, none⟩ = some v0 → (w.setCell ⟨g, i * 8 + k, none⟩ u).cell? ⟨g, i * 8 + k, none⟩ = some u := fun v0 hv => by
      have hb : Blk (w.setCell ⟨g, i * 8 + k, none⟩ u) g T (cur.toList.set (i * 8 + k) u) := Blk.set (show Blk w g T cur.toList from by unfold Blk; rw [hcur]) (i * 8 + k) u
      have h0 : cur.toList[i * 8 + k]? = some v0 := by
        unfold World.cell? at hv
        rw [show w.heap[(⟨g, i * 8 + k, none⟩ : Addr).block]? = _ from hcur] at hv
        simpa using hv
      exact hb.cell (by rw [List.getElem?_set_self ((List.getElem?_eq_some_iff.1 h0).1)])
    rw [show levelL.size = 8 from rfl] at *
    by_cases hj : j = i
    · subst hj
      rw [List.getElem?_set_self ((List.getElem?_eq_some_iff.1 hx).1)] at hy
      cases hy
      obtain ⟨c, e1, e2⟩ := h3 j x hx
      refine ⟨c.set k u, hi c e2, fun t v hv => ?_⟩
      rw [Nat.zero_add]
      have hlen : c.length = 8 := levelL.len e2
      by_cases ht : t = k
      · subst ht
        rw [List.getElem?_set_self (by omega)] at hv
        cases hv
        exact hnew _ (hcell j c t c[t] e1 (List.getElem?_eq_getElem (by omega)))
      · rw [List.getElem?_set_ne (Ne.symm ht)] at hv
        exact hfree _ _ (hcell j c t v e1 hv) (by omega)
    · rw [List.getElem?_set_ne (Ne.symm hj)] at hy
      obtain ⟨c, e1, e2⟩ := h3 j y hy
      refine ⟨c, levelL.mono (levelL.kept e2 keep) hBB, fun t v hv => ?_⟩
      rw [Nat.zero_add]
      have hlen : c.length = 8 := levelL.len e2
      have ht := (List.getElem?_eq_some_iff.1 hv).1
      exact hfree _ _ (hcell j c t v e1 hv) (by omega)
end Go.Proofs.Ytdmancneccfgeaa.Hl
