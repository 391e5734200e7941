/-
  Lists appended to lists (the laws' shared part).
-/
import Derived.Test.YtllhonjhjhajjabDoorRefItem7
import Derived.Test.YtllhonjhjhajjabDoorRound
import Derived.Laws.OwnMore
namespace Go.Proofs.YtllhonjhjhajjabDoor
open Go.RowKit Go.Sort Go.Shelf Foyer.Rule Foyer.Round

/-! ### Parts of a list appended to one that the call made -/
theorem all2_append {α β : Type} {R : β → α → Prop} {bs cs : List β} {xs ys : List α} (h : All2 R bs xs) (h' : All2 R cs ys) : All2 R (bs ++ cs) (xs ++ ys) := by
  induction h with
  | nil => exact h'
  | cons h _ ih => exact .cons h ih
theorem all2_take {α β : Type} {R : β → α → Prop} {bs : List β} {xs : List α} (h : All2 R bs xs) : ∀ k, All2 R (bs.take k) (xs.take k) := by
  induction h with
  | nil => intro k; cases k <;> exact .nil
  | cons h _ ih => intro k; cases k with | zero => exact .nil | succ k => exact .cons h (ih k)
theorem all2_drop {α β : Type} {R : β → α → Prop} {bs : List β} {xs : List α} (h : All2 R bs xs) : ∀ k, All2 R (bs.drop k) (xs.drop k) := by
  induction h with
  | nil => intro k; cases k <;> exact .nil
  | cons h hs ih => intro k; cases k with | zero => exact .cons h hs | succ k => exact ih k
theorem Con.cells_at {w : World} {B m n cap g : Nat} {T : TypeId} {css : List (List Value)} (h : Con w B T m (.slice (some ⟨g, 0, none⟩) n cap) css) : ∀ j u, css.flatten[j]? = some u → w.cell? ⟨g, j, none⟩ = some u := by
  intro j u hj
  rcases h.own.2 with ⟨h1, _⟩ | ⟨g', cap', cur, h1, h2, h3, h4, h5, h6, h7⟩
  · cases h1
  · injection h1 with e1 e2 e3
    cases e1
    rw [← h7, List.getElem?_take] at hj
    split at hj
    · unfold World.cell?
      rw [show w.heap[(⟨g, j, none⟩ : Addr).block]? = _ from h3]
      simpa using hj
    · cases hj
theorem flat_take {css : List (List Value)} {k j : Nat} {u : Value} (h : (css.take k).flatten[j]? = some u) : css.flatten[j]? = some u := by
  have hlt : j < (css.take k).flatten.length := (List.getElem?_eq_some_iff.1 h).1
  rw [← List.take_append_drop k css, List.flatten_append, List.getElem?_append_left hlt]
  exact h
theorem flat_drop {css : List (List Value)} {k j m : Nat} {u : Value} (hm : ∀ cs ∈ css, cs.length = m) (hk : k ≤ css.length) (h : (css.drop k).flatten[j]? = some u) : css.flatten[k * m + j]? = some u := by
  have hl : (css.take k).flatten.length = k * m := by
    rw [flatten_length (m := m) (fun cs hcs => hm cs (List.mem_of_mem_take hcs)), List.length_take, Nat.min_eq_left hk]
  rw [← List.take_append_drop k css, List.flatten_append, List.getElem?_append_right (by omega), hl, Nat.add_sub_cancel_left]
  exact h
theorem con_appends {w : World} {B T t m bytes : Nat} {i0 : TypeInfo} {z : Value} (ht : Tryd.prog.underlying t = some (.slice T)) (hi : Tryd.prog.info? T = some i0) (hz0 : i0.zero = some z) (hz1 : i0.size = m) (hz2 : i0.bytes = bytes) (hzs : z.cells.size = m) (hm : 0 < m) (hby : bytes ≤ 200)
    {o : Oper} {a : Act} {K : Act → World → Prop} {Q : Exit → Act → World → Prop} (s x : Operand)
    (hop : o.op = Op.call { callee := Callee.builtin Builtin.append, args := #[s, x], argTypes := #[t, t] })
    (v : Value) (css dss : List (List Value)) (k : Nat) (hk : dss.length = k) (hs : a.eval s = v) (hown : Con w B T m v css) (b off c : Nat) (hx : a.eval x = .slice (some ⟨b, off, none⟩) k c)
    (hc : ∀ j u, dss.flatten[j]? = some u → w.cell? ⟨b, off + j, none⟩ = some u) (hdl : ∀ d ∈ dss, d.length = m) (h1 : ∀ d ∈ dss, ∀ u ∈ d, u.oneCell' = true) (hlen : css.length + k ≤ 1000000) (hB : B ≤ w.heap.size)
    (hK : ∀ pa pc w', Con w' B T m (.slice pa (css.length + k) pc) (css ++ dss) → w.grownBy w' v.ownBlock → ((Value.slice pa (css.length + k) pc).ownBlock = v.ownBlock ∨ (Value.slice pa (css.length + k) pc).ownBlock = some w.heap.size) → K (a.put o.dst (.slice pa (css.length + k) pc)) w') : Oper.wp Tryd.prog o a w K Q := by
  subst hk
  have hr := run_append_own_at (P := Tryd.prog) w B t o.type T i0 z m bytes ht hi hz0 hz1 hz2 hzs hm v css.length _ hown.own ⟨b, off, none⟩ dss.length c dss.flatten (flatten_length hdl) (fun j u hu => by rw [add_plain]; exact hc j u hu) (fun u hu => by
    obtain ⟨d, hd, hud⟩ := List.mem_flatten.1 hu
    exact h1 d hd u hud) (by unfold maxLen; omega) (by
    have : (css.length + dss.length) * bytes ≤ 1000000 * 200 := Nat.mul_le_mul hlen hby
    omega) hB
  obtain ⟨v', w', hr, h2, h3, h4, h5⟩ := hr
  unfold Oper.wp execOp
  simp only [hop, resolve, invoke, builtin, Sem.run_bind, Sem.run_pure, Result.andThen_ok, List.map_toArray, List.map_cons, List.map_nil, hs, hx, hr]
  have hcon : Con w' B T m v' (css ++ dss) := ⟨own_cast h2 (by simp) (by simp), fun cs hcs => (List.mem_append.1 hcs).elim (hown.each cs) (hdl cs)⟩
  obtain ⟨pa, pc, rfl⟩ : ∃ pa pc, v' = .slice pa (css.length + dss.length) pc := by
    rcases h2.2 with ⟨rfl, hn⟩ | ⟨g, cap, cur, rfl, _⟩
    · exact ⟨none, 0, by rw [hn]⟩
    · exact ⟨_, _, rfl⟩
  exact hK pa pc w' hcon h3 h5
theorem Below.own {B : Nat} {a b c : World} {v : Value} (h : Below B a b) (hg : b.grownBy c v.ownBlock) (hv : ∀ k, v.ownBlock = some k → B ≤ k) (hB : B ≤ b.heap.size) : Below B a c := h.grown hg hB (fun q hq => hv q hq)
theorem cells_one {W : World} {F : Nat → Prop} {css : List (List Value)} {xs : List ItemP} (h : All2 (itemK.is W F) css xs) : ∀ d ∈ css, ∀ u ∈ d, u.oneCell' = true := by
  induction h with
  | nil => intro d hd; cases hd
  | cons h _ ih =>
    intro d hd
    rcases List.mem_cons.1 hd with rfl | hd
    · exact itemK.one h
    · exact ih d hd
theorem tests_one {W : World} {F : Nat → Prop} {css : List (List Value)} {xs : List (List TestP)} (h : All2 (testsK.is W F) css xs) : ∀ d ∈ css, ∀ u ∈ d, u.oneCell' = true := by
  induction h with
  | nil => intro d hd; cases hd
  | cons h _ ih =>
    intro d hd
    rcases List.mem_cons.1 hd with rfl | hd
    · exact testsK.one h
    · exact ih d hd
theorem con_appends_con {w : World} {B B' T t m bytes : Nat} {i0 : TypeInfo} {z : Value} (ht : Tryd.prog.underlying t = some (.slice T)) (hi : Tryd.prog.info? T = some i0) (hz0 : i0.zero = some z) (hz1 : i0.size = m) (hz2 : i0.bytes = bytes) (hzs : z.cells.size = m) (hm : 0 < m) (hby : bytes ≤ 200)
    {o : Oper} {a : Act} {K : Act → World → Prop} {Q : Exit → Act → World → Prop} (s x : Operand)
    (hop : o.op = Op.call { callee := Callee.builtin Builtin.append, args := #[s, x], argTypes := #[t, t] })
    (v : Value) (css dss : List (List Value)) (k : Nat) (hk : dss.length = k) (hs : a.eval s = v) (hown : Con w B T m v css) (src : Value) (hx : a.eval x = src) (hsrc : Con w B' T m src dss)
    (h1 : ∀ d ∈ dss, ∀ u ∈ d, u.oneCell' = true) (hlen : css.length + k ≤ 1000000) (hB : B ≤ w.heap.size)
    (hK : ∀ pa pc w', Con w' B T m (.slice pa (css.length + k) pc) (css ++ dss) → w.grownBy w' v.ownBlock → ((Value.slice pa (css.length + k) pc).ownBlock = v.ownBlock ∨ (Value.slice pa (css.length + k) pc).ownBlock = some w.heap.size) → K (a.put o.dst (.slice pa (css.length + k) pc)) w') : Oper.wp Tryd.prog o a w K Q := by
  rcases hsrc.form with ⟨rfl, rfl⟩ | ⟨g, cap, cur, rfl, _, hg, _, _, _, hcell⟩
  · subst hk
    have hr := run_append_owned_none (P := Tryd.prog) (w := w) B t o.type T i0 m ht hi v css.length css.flatten hown.own
    unfold Oper.wp execOp
    simp only [hop, resolve, invoke, builtin, Sem.run_bind, Sem.run_pure, Result.andThen_ok, List.map_toArray, List.map_cons, List.map_nil, hs, hx, hr]
    have hv : ∃ pa pc, v = .slice pa css.length pc := by
      rcases hown.own.2 with ⟨h, hn⟩ | ⟨g, cap, cur, h, _⟩
      · exact ⟨none, 0, by rw [hn]; exact h⟩
      · exact ⟨_, _, h⟩
    obtain ⟨pa, pc, rfl⟩ := hv
    have := hK pa pc w (by rw [List.append_nil]; exact hown) ⟨rfl, rfl, rfl, Nat.le_refl _, fun _ _ _ => rfl⟩ (Or.inl rfl)
    exact this
  · exact con_appends ht hi hz0 hz1 hz2 hzs hm hby s x hop v css dss k hk hs hown g 0 cap (by rw [hx, hk]) (fun j u hj => by rw [Nat.zero_add]; exact hsrc.cells_at j u hj) (fun d hd => hsrc.each d hd) h1 hlen hB hK
theorem wpList_appends_con {w : World} {B B' T t m bytes : Nat} {i0 : TypeInfo} {z : Value} (ht : Tryd.prog.underlying t = some (.slice T)) (hi : Tryd.prog.info? T = some i0) (hz0 : i0.zero = some z) (hz1 : i0.size = m) (hz2 : i0.bytes = bytes) (hzs : z.cells.size = m) (hm : 0 < m) (hby : bytes ≤ 200)
    {ops : Array Oper} {rest : List Oper} {o : Oper} {a : Act} {Q : Exit → Act → World → Prop} (hgd : o.guard = none) (s x : Operand)
    (hop : o.op = Op.call { callee := Callee.builtin Builtin.append, args := #[s, x], argTypes := #[t, t] })
    (v : Value) (css dss : List (List Value)) (k : Nat) (hk : dss.length = k) (hs : a.eval s = v) (hown : Con w B T m v css) (src : Value) (hx : a.eval x = src) (hsrc : Con w B' T m src dss)
    (h1 : ∀ d ∈ dss, ∀ u ∈ d, u.oneCell' = true) (hlen : css.length + k ≤ 1000000) (hB : B ≤ w.heap.size)
    (hK : ∀ pa pc w', Con w' B T m (.slice pa (css.length + k) pc) (css ++ dss) → w.grownBy w' v.ownBlock → ((Value.slice pa (css.length + k) pc).ownBlock = v.ownBlock ∨ (Value.slice pa (css.length + k) pc).ownBlock = some w.heap.size) → wpList Tryd.prog ops Q rest (a.put o.dst (.slice pa (css.length + k) pc)) w') : wpList Tryd.prog ops Q (o :: rest) a w := by
  refine wpList_plain hgd fun K hK' => ?_
  exact con_appends_con ht hi hz0 hz1 hz2 hzs hm hby s x hop v css dss k hk hs hown src hx hsrc h1 hlen hB fun pa pc w' h2 h3 h4 => hK' _ _ (hK pa pc w' h2 h3 h4)
end Go.Proofs.YtllhonjhjhajjabDoor
