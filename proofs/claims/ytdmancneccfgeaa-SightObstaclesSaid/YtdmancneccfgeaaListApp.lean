/-
  Lists that are read, appended to lists that the call made.
-/
import Derived.Test.YtdmancneccfgeaaHallIs
import Derived.Maps.AppendAt
import Derived.Laws.OwnMore
namespace Go.Proofs.Ytdmancneccfgeaa.Hl
open Go.RowKit Go.Sort Foyer.Hall

/-- A list of the call's own; what its things lead to lies below it. -/
def Made {α : Type} (K : Look α) (w : World) (B : Nat) (T : TypeId) (v : Value) (xs : List α) : Prop :=
  ∃ css : List (List Value), Con w B T K.size v css ∧ css.length = xs.length ∧ ∀ (i : Nat) x, xs[i]? = some x → ∃ c, css[i]? = some c ∧ K.is w B c x
section
variable {α : Type} {K : Look α} {w w' : World} {B : Nat} {T : TypeId} {v : Value} {xs : List α}
theorem Made.lk (h : Made K w B T v xs) : Lk K w w.heap.size v xs := by
  obtain ⟨css, h1, h2, h3⟩ := h
  rcases h1.form with ⟨rfl, rfl⟩ | ⟨g, cap, cur, rfl, hB, hg, _, hcap, hmax, hcell⟩
  · have : xs = [] := List.length_eq_zero_iff.1 h2.symm
    subst this
    exact ⟨none, 0, rfl, Nat.le_refl _, Nat.zero_le _, Or.inl rfl⟩
  · refine ⟨_, cap, by rw [h2], by omega, hmax, Or.inr ⟨g, 0, rfl, hg, fun i x hx => ?_⟩⟩
    obtain ⟨c, hc, hi⟩ := h3 i x hx
    exact ⟨c, K.mono hi (by omega), fun j u hj => by rw [Nat.zero_add]; exact hcell i c j u hc hj⟩
theorem Made.lt (h : Made K w B T v xs) {k : Nat} (hk : v.ownBlock = some k) : B ≤ k ∧ k < w.heap.size := let ⟨_, h1, _⟩ := h; own_lt h1.own hk
theorem Made.since (h : Made K w B T v xs) (hb : Below w.heap.size w w') (hB : B ≤ w.heap.size) : Made K w' B T v xs := by
  obtain ⟨css, h1, h2, h3⟩ := h
  exact ⟨css, h1.of_block fun k hk => hb.block k (own_lt h1.own hk).2, h2, fun i x hx => let ⟨c, hc, hi⟩ := h3 i x hx; ⟨c, hc, K.kept hi fun k hk => hb.block k (by omega)⟩⟩
theorem Made.one (h : Made K w B T v xs) : v.oneCell' = true := by
  obtain ⟨css, h1, _⟩ := h
  rcases h1.form with ⟨rfl, _⟩ | ⟨g, cap, cur, rfl, _⟩ <;> rfl
theorem made_nil (K : Look α) {B : Nat} (w : World) (hB : B ≤ w.heap.size) (T : TypeId) : Made K (w.alloc (.cells #[] T)) B T (.slice (some ⟨w.heap.size, 0, none⟩) 0 0) [] :=
  ⟨[], ⟨World.ownsRow_lit w #[] 0 hB (Nat.zero_le _) (by simp), fun _ h => by cases h⟩, rfl, fun i x hx => by simp at hx⟩
theorem made_one {B : Nat} {c : List Value} {x : α} (h : K.is w B c x) (hB : B ≤ w.heap.size) (T : TypeId) : Made K (w.alloc (.cells c.toArray T)) B T (.slice (some ⟨w.heap.size, 0, none⟩) 1 1) [x] := by
  have hl := K.len h
  refine ⟨[c], ⟨?_, fun cs hcs => ?_⟩, rfl, fun i y hy => ?_⟩
  · have := World.ownsRow_lit (base := B) (e := T) (size := K.size) w c.toArray 1 hB (by unfold maxLen; omega) (by simp [hl])
    simpa using this
  · rw [List.mem_singleton] at hcs; subst hcs; exact hl
  · match i, hy with
    | 0, hy =>
      cases hy
      exact ⟨c, rfl, K.kept h fun k hk => Below.heap_alloc _ _ _ (by omega)⟩
theorem Made.other (h : Made K w B T v xs) {d i : Nat} (hd : B ≤ d) (hne : v.ownBlock ≠ some d) (u : Value) : Made K (w.setCell ⟨d, i, none⟩ u) B T v xs := by
  obtain ⟨css, h1, h2, h3⟩ := h
  have keep : ∀ k, k ≠ d → (w.setCell ⟨d, i, none⟩ u).heap[k]? = w.heap[k]? := fun k hk => Below.heap_setCell _ _ _ _ hk
  exact ⟨css, h1.of_block fun k hk => keep k (fun e => hne (by rw [hk, e])), h2, fun i x hx => let ⟨c, hc, hi⟩ := h3 i x hx; ⟨c, hc, K.kept hi fun k hk => keep k (by omega)⟩⟩
/-- What an appended list is built in, if what it was built in lies beyond a bound. -/
theorem own_beyond {v v' : Value} {H S : Nat} (o : v'.ownBlock = v.ownBlock ∨ v'.ownBlock = some S) (h : ∀ k, v.ownBlock = some k → H ≤ k) (hS : H ≤ S) : ∀ k, v'.ownBlock = some k → H ≤ k := fun k hk => by
  rcases o with e | e
  · exact h k (by rw [← e]; exact hk)
  · rw [e] at hk; cases hk; exact hS
end
/-- A list that is read: what its things lead to lies below a bound, the list itself anywhere. -/
def Src {α : Type} (K : Look α) (w : World) (B : Nat) (v : Value) (xs : List α) : Prop :=
  ∃ p cap, v = .slice p xs.length cap ∧ xs.length ≤ cap ∧ cap ≤ maxLen ∧
    (xs = [] ∨ ∃ b off, p = some ⟨b, off, none⟩ ∧ ∀ (i : Nat) x, xs[i]? = some x → ∃ c, K.is w B c x ∧ ∀ (j : Nat) u, c[j]? = some u → w.cell? ⟨b, off + i * K.size + j, none⟩ = some u)
theorem Lk.src {α : Type} {K : Look α} {w : World} {B B' : Nat} {v : Value} {xs : List α} (h : Lk K w B v xs) (hB : B ≤ B') : Src K w B' v xs := by
  obtain ⟨p, cap, hv, h1, h2, h3⟩ := h
  exact ⟨p, cap, hv, h1, h2, h3.imp id fun ⟨b, off, hp, _, h⟩ => ⟨b, off, hp, fun i x hx => let ⟨c, k1, k2⟩ := h i x hx; ⟨c, K.mono k1 hB, k2⟩⟩⟩
theorem src_one {α : Type} {K : Look α} {w : World} {B : Nat} {c : List Value} {x : α} (h : K.is w B c x) (hB : B ≤ w.heap.size) (T : TypeId) : Src K (w.alloc (.cells c.toArray T)) B (.slice (some ⟨w.heap.size, 0, none⟩) 1 1) [x] := by
  refine ⟨_, 1, rfl, Nat.le_refl _, by unfold maxLen; omega, Or.inr ⟨_, _, rfl, fun i y hy => ?_⟩⟩
  match i, hy with
  | 0, hy =>
    cases hy
    exact ⟨c, K.kept h fun k hk => Below.heap_alloc _ _ _ (by omega), fun j u hj => by rw [Nat.zero_mul, Nat.zero_add]; exact (Blk.new w T c).cell hj⟩
theorem flat_cells {w : World} {b m : Nat} : ∀ (dss : List (List Value)) (off : Nat), (∀ d ∈ dss, d.length = m) → (∀ i d, dss[i]? = some d → ∀ j u, d[j]? = some u → w.cell? ⟨b, off + i * m + j, none⟩ = some u) →
    ∀ j u, dss.flatten[j]? = some u → w.cell? ⟨b, off + j, none⟩ = some u
  | [], _, _, _, j, u, h => by simp at h
  | d :: r, off, hl, hc, j, u, h => by
    have hd := hl d List.mem_cons_self
    rw [List.flatten_cons] at h
    by_cases hj : j < d.length
    · rw [List.getElem?_append_left hj] at h
      have := hc 0 d rfl j u h
      rw [Nat.zero_mul, Nat.add_zero] at this
      exact this
    · rw [List.getElem?_append_right (by omega), hd] at h
      have := flat_cells r (off + m) (fun x hx => hl x (List.mem_cons_of_mem _ hx)) (fun i x hx k y hy => by
        have := hc (i + 1) x (by simpa using hx) k y hy
        rw [Nat.add_mul, Nat.one_mul] at this
        rw [show off + m + i * m + k = off + (i * m + m) + k by omega]; exact this) (j - m) u h
      rw [show off + m + (j - m) = off + j by omega] at this
      exact this
theorem append_none {w : World} (base : Nat) (t ty e : TypeId) (i : TypeInfo) (size c : Nat) (ht : Try.prog.underlying t = some (.slice e)) (hi : Try.prog.info? e = some i)
    (v : Value) (n : Nat) (xs : List Value) (hown : w.ownsRow base e size v n xs) :
    (Builtin.append_ #[t, t] ty #[v, .slice none 0 c]).run Try.prog w = .ok v w := by
  rcases hown.2 with ⟨rfl, rfl⟩ | ⟨g, cap, cur, rfl, _, _, hnc, _⟩
  · simp [Builtin.append_, run_underlying ht, sizeOf, typeInfo, hi, Builtin.lenOf, Builtin.firstCells]
  · simp [Builtin.append_, run_underlying ht, sizeOf, typeInfo, hi, Builtin.lenOf, Builtin.firstCells, hnc, storeCells]
theorem appends_lk {α : Type} {K : Look α} {w : World} {B T t bytes : Nat} {i0 : TypeInfo} {z : Value} (ht : Try.prog.underlying t = some (.slice T)) (hi : Try.prog.info? T = some i0) (hz0 : i0.zero = some z) (hz1 : i0.size = K.size) (hz2 : i0.bytes = bytes) (hzs : z.cells.size = K.size) (hm : 0 < K.size) (hby : bytes ≤ 200)
    (ty : TypeId) (v src : Value) (xs ys : List α) (hv : Made K w B T v xs) (hsrc : Src K w B src ys) (hlen : xs.length + ys.length ≤ 1000000) (hB : B ≤ w.heap.size) :
    ∃ v' w', (Builtin.append_ #[t, t] ty #[v, src]).run Try.prog w = .ok v' w' ∧ Made K w' B T v' (xs ++ ys) ∧ w.grownBy w' v.ownBlock ∧ (v'.ownBlock = v.ownBlock ∨ v'.ownBlock = some w.heap.size) := by
  obtain ⟨css, h1, h2, h3⟩ := hv
  obtain ⟨p, cap, rfl, hc1, hc2, hp⟩ := hsrc
  have some_case : ∀ (b off : Nat) (dss : List (List Value)), dss.length = ys.length → (∀ d ∈ dss, d.length = K.size) → (∀ (i : Nat) y, ys[i]? = some y → ∃ d, dss[i]? = some d ∧ K.is w B d y) → (∀ d ∈ dss, ∀ u ∈ d, u.oneCell' = true) →
      (∀ (j : Nat) u, dss.flatten[j]? = some u → w.cell? ((⟨b, off, none⟩ : Addr).add j) = some u) → ∃ v' w', (Builtin.append_ #[t, t] ty #[v, .slice (some ⟨b, off, none⟩) ys.length cap]).run Try.prog w = .ok v' w' ∧ Made K w' B T v' (xs ++ ys) ∧ w.grownBy w' v.ownBlock ∧ (v'.ownBlock = v.ownBlock ∨ v'.ownBlock = some w.heap.size) := by
    intro b off dss hdl hde hdi hd1 hdc
    have hb : (css.length + ys.length) * bytes ≤ 140737488355328 := by
      have : (css.length + ys.length) * bytes ≤ 1000000 * 200 := Nat.mul_le_mul (by omega) hby
      omega
    obtain ⟨v', w', hr, k1, k2, _, k4⟩ := run_append_own_at (P := Try.prog) w B t ty T i0 z K.size bytes ht hi hz0 hz1 hz2 hzs hm v css.length _ h1.own ⟨b, off, none⟩ ys.length cap dss.flatten (by rw [flatten_length hde, hdl]) hdc (fun u hu => by
      obtain ⟨d, hd, hud⟩ := List.mem_flatten.1 hu
      exact hd1 d hd u hud) (by unfold maxLen; omega) hb hB
    have keep : ∀ k, k < B → w'.heap[k]? = w.heap[k]? := fun k hk => k2.block k (by omega) (fun e => by
      have := (own_lt h1.own e.symm).1; omega)
    refine ⟨v', w', hr, ⟨css ++ dss, ⟨own_cast k1 (by rw [List.length_append, hdl]) (by rw [List.flatten_append]), fun cs hcs => (List.mem_append.1 hcs).elim (h1.each cs) (hde cs)⟩, by rw [List.length_append, List.length_append, h2, hdl], fun i x hx => ?_⟩, k2, k4⟩
    by_cases hi : i < xs.length
    · rw [List.getElem?_append_left hi] at hx
      obtain ⟨c, e1, e2⟩ := h3 i x hx
      exact ⟨c, by rw [List.getElem?_append_left (by omega)]; exact e1, K.kept e2 keep⟩
    · rw [List.getElem?_append_right (by omega)] at hx
      obtain ⟨d, e1, e2⟩ := hdi _ x hx
      exact ⟨d, by rw [List.getElem?_append_right (by omega), h2]; exact e1, K.kept e2 keep⟩
  rcases hp with hnil | ⟨b, off, rfl, hp⟩
  · subst hnil
    cases p with
    | none =>
      refine ⟨v, w, append_none B t ty T i0 K.size cap ht hi v css.length css.flatten h1.own, ?_, ⟨rfl, rfl, rfl, Nat.le_refl _, fun _ _ _ => rfl⟩, Or.inl rfl⟩
      rw [List.append_nil]
      exact ⟨css, h1, h2, h3⟩
    | some q =>
      have hb : (css.length + 0) * bytes ≤ 140737488355328 := by
        have : (css.length + 0) * bytes ≤ 1000000 * 200 := Nat.mul_le_mul (by simp at hlen; omega) hby
        omega
      obtain ⟨v', w', hr, k1, k2, _, k4⟩ := run_append_own_at (P := Try.prog) w B t ty T i0 z K.size bytes ht hi hz0 hz1 hz2 hzs hm v css.length _ h1.own q 0 cap [] (by simp) (fun j u hu => by simp at hu) (fun u hu => by cases hu) (by simp at hlen; unfold maxLen; omega) hb hB
      have keep : ∀ k, k < B → w'.heap[k]? = w.heap[k]? := fun k hk => k2.block k (by omega) (fun e => by
        have := (own_lt h1.own e.symm).1; omega)
      rw [List.append_nil] at k1
      refine ⟨v', w', hr, ?_, k2, k4⟩
      rw [List.append_nil]
      exact ⟨css, ⟨k1, h1.each⟩, h2, fun i x hx => let ⟨c, e1, e2⟩ := h3 i x hx; ⟨c, e1, K.kept e2 keep⟩⟩
  · obtain ⟨dss, hdl, hd⟩ := list_of (P := fun i d => ∃ y, ys[i]? = some y ∧ K.is w B d y ∧ ∀ j u, d[j]? = some u → w.cell? ⟨b, off + i * K.size + j, none⟩ = some u) ys.length (fun i hi => by
      obtain ⟨c, k1, k2⟩ := hp i ys[i] (List.getElem?_eq_getElem hi)
      exact ⟨c, ys[i], List.getElem?_eq_getElem hi, k1, k2⟩)
    have hmem : ∀ d ∈ dss, ∃ y, K.is w B d y := fun d hm => by
      obtain ⟨i, hi⟩ := List.getElem?_of_mem hm
      obtain ⟨y, _, h, _⟩ := hd i d hi
      exact ⟨y, h⟩
    refine some_case b off dss hdl (fun d hm => let ⟨y, h⟩ := hmem d hm; K.len h) (fun i y hy => ?_) (fun d hm => let ⟨y, h⟩ := hmem d hm; K.one h) (fun j u hu => ?_)
    · have hi : i < dss.length := by rw [hdl]; exact (List.getElem?_eq_some_iff.1 hy).1
      obtain ⟨y', e1, e2, _⟩ := hd i dss[i] (List.getElem?_eq_getElem hi)
      rw [hy] at e1
      cases e1
      exact ⟨_, List.getElem?_eq_getElem hi, e2⟩
    · rw [add_plain]
      exact flat_cells dss off (fun d hm => let ⟨y, h⟩ := hmem d hm; K.len h) (fun i d hi => (hd i d hi).choose_spec.2.2) j u hu
theorem wpList_appends_lk {α : Type} {K : Look α} {w : World} {B T t bytes : Nat} {i0 : TypeInfo} {z : Value} (ht : Try.prog.underlying t = some (.slice T)) (hi : Try.prog.info? T = some i0) (hz0 : i0.zero = some z) (hz1 : i0.size = K.size) (hz2 : i0.bytes = bytes) (hzs : z.cells.size = K.size) (hm : 0 < K.size) (hby : bytes ≤ 200)
    {ops : Array Oper} {rest : List Oper} {o : Oper} {a : Act} {Q : Exit → Act → World → Prop} (hgd : o.guard = none) (s x : Operand)
    (hop : o.op = Op.call { callee := Callee.builtin Builtin.append, args := #[s, x], argTypes := #[t, t] })
    (v src : Value) (xs ys : List α) (hs : a.eval s = v) (hx : a.eval x = src) (hv : Made K w B T v xs) (hsrc : Src K w B src ys) (hlen : xs.length + ys.length ≤ 1000000) (hB : B ≤ w.heap.size)
    (hK : ∀ v' w', Made K w' B T v' (xs ++ ys) → w.grownBy w' v.ownBlock → (v'.ownBlock = v.ownBlock ∨ v'.ownBlock = some w.heap.size) → wpList Try.prog ops Q rest (a.put o.dst v') w') : wpList Try.prog ops Q (o :: rest) a w := by
  refine wpList_plain hgd fun K' hK' => ?_
  obtain ⟨v', w', hr, h2, h3, h4⟩ := appends_lk ht hi hz0 hz1 hz2 hzs hm hby o.type v src xs ys hv hsrc hlen hB
  unfold Oper.wp execOp
  simp only [hop, resolve, invoke, builtin, Sem.run_bind, Sem.run_pure, Result.andThen_ok, List.map_toArray, List.map_cons, List.map_nil, hs, hx, hr]
  exact hK' _ _ (hK v' w' h2 h3 h4)
/-- Growing what the call made leaves what lay there before the call. -/
theorem Below.grew {B : Nat} {a b c : World} {v : Value} (h : Below B a b) (hg : b.grownBy c v.ownBlock) (hv : ∀ k, v.ownBlock = some k → B ≤ k) (hB : B ≤ b.heap.size) : Below B a c := h.grown hg hB (fun q hq => hv q hq)
end Go.Proofs.Ytdmancneccfgeaa.Hl
