/-
  The plain mathematics of halls that are joined in a text.
-/
import Derived.Test.YtkggmehbkefgjaaDoorMathPlan
namespace Foyer.Plan
open Foyer.Lexer

theorem isTok_close {k v : Nat} {nx : Option UInt8} (h : IsTok k [125] v nx) : k = 3 ∧ v = 0 := by
  rcases h with ⟨_, _, _, ⟨d, r, e, h4⟩, _⟩ | ⟨_, _, _, _, h3, _⟩ | ⟨h1, h2, _⟩ | ⟨h1, h2, _⟩ | h
  · cases e
    exact absurd h4 (by decide)
  · exact absurd (h3 125 (by simp)) (by decide)
  · exact ⟨h1, h2⟩
  · exact ⟨h1, h2⟩
  · exact ⟨h.1, h.2.1⟩
theorem lx_close {a : Nat} {l : List UInt8} {ts : List Tok} {e : Option (Nat × Nat)} (h : Lx a l ts e) : ∀ t ∈ ts, t.text = [125] → t.kind = 3 ∧ t.val = 0 := by
  induction h with
  | nil => simp
  | bad => simp
  | good a g T rest k v ts e hg hT hr ih =>
    intro t ht he
    rcases List.mem_cons.1 ht with rfl | ht
    · simp only at he; subst he; exact isTok_close hT
    · exact ih t ht he
theorem shift_length (d : Nat) (ts : List Tok) : (shift d ts).length = ts.length := by unfold shift; rw [List.length_map]
theorem lx_brace : Lx 0 [125] [⟨3, [125], 0, 0⟩] none := by
  have := Lx.good 0 [] [125] [] 3 0 [] none rfl (Or.inr (Or.inr (Or.inl ⟨rfl, rfl, 125, rfl, by decide⟩))) (Lx.nil _ _ rfl)
  simpa using this
theorem parse_inv {ts : List Tok} {n : Nat} {x : HallP} {O : Nat} (h : parseToks ts n = (x, 0, O)) : hallP ts = .ok x [] := by
  rcases parse_ways ts with ⟨a, ha, hp⟩ | ⟨_, hp⟩ | ⟨pre, t, r, _, hp, _⟩
  · rw [hp] at h; cases h; exact ha
  · rw [hp] at h; cases h
  · rw [hp] at h; cases h
theorem parseAll_inv {l : List UInt8} {x : HallP} {O : Int} (hl : l.length ≤ 5000) (h : parseAll l = (x, 0, O)) : ∃ ts, Lx 0 l ts none ∧ lexAll l = (ts, 0, 0) ∧ hallP ts = .ok x [] := by
  obtain ⟨ts, e, hx⟩ := lx_some 0 l
  cases e with
  | some y =>
    obtain ⟨d, p⟩ := y
    obtain ⟨h1, _, _⟩ := lx_err hx d p rfl
    have hle := lexAll_some hl hx
    unfold parseAll at h
    rw [hle] at h
    simp only at h
    split at h
    · omega
    · simp only [Prod.mk.injEq] at h; omega
  | none =>
    have hle := lexAll_none hl hx
    unfold parseAll at h
    rw [hle, if_pos rfl] at h
    simp only [Prod.mk.injEq] at h
    exact ⟨ts, hx, hle, parse_inv (n := l.length) (O := (parseToks ts l.length).2.2) (by rw [← h.1, ← h.2.1])⟩
/-- P6.5: the levels of two texts in one. -/
theorem levels_join {l m : List UInt8} (hl : l.length ≤ 4000) (hm : m.length ≤ 4000) {a b : HallP} {O Q : Int} (ha : parseAll l = (a, 0, O)) (hb : parseAll m = (b, 0, Q)) :
    ∃ (ts us p1 : List Tok) (t1 o t2 : Tok), lexAll l = (ts, 0, 0) ∧ lexAll m = (us, 0, 0) ∧ ts = p1 ++ [t1] ∧ us[5]? = some o ∧ us[us.length - 1]? = some t2 ∧ 7 ≤ ts.length ∧ 7 ≤ us.length ∧ o.pos + 1 ≤ t2.pos ∧ t1.pos ≤ l.length ∧ t2.pos ≤ m.length ∧
      (ts.length + us.length ≤ 4000 → ∃ bs : List LevelP, parseAll (((l.take t1.pos ++ [10]) ++ (m.take t2.pos).drop (o.pos + 1)) ++ [10, 125]) = (⟨a.name, a.sx, a.sy, a.levels ++ bs⟩, 0, 0) ∧ bs.map LevelP.bare = b.levels.map LevelP.bare) := by
  obtain ⟨ts, hx, hle, hha⟩ := parseAll_inv (by omega) ha
  obtain ⟨us, hy, hme, hhb⟩ := parseAll_inv (by omega) hb
  obtain ⟨p1, t1, q, body, t2, rfl, rfl, hq, ⟨o, ho, hot⟩, ht1, ht2, hp6, hj⟩ := hall_join hha hhb
  have hqo : ∃ q5 : List Tok, q = q5 ++ [o] := by
    refine ⟨q.take 5, ?_⟩
    have h5 : q = q.take 6 := (List.take_of_length_le (by omega)).symm
    conv => lhs; rw [h5]
    rw [List.take_add_one, ho]; rfl
  obtain ⟨q5, rfl⟩ := hqo
  have hq5 : q5.length = 5 := by simpa using hq
  obtain ⟨c1, _, _⟩ := lx_cut (pre := p1) (t := t1) (us := []) hx
  rw [Nat.sub_zero] at c1
  have hy2 : Lx 0 m (q5 ++ o :: (body ++ [t2])) none := by simpa using hy
  obtain ⟨_, _, c2⟩ := lx_cut hy2
  have ho1 : o.text.length = 1 := by rw [hot]; rfl
  rw [ho1, Nat.sub_zero] at c2
  have hlow := lx_low c2 t2 (by simp)
  obtain ⟨c3, _, _⟩ := lx_cut (pre := body) (t := t2) (us := []) c2
  have hpos : ∀ {a : Nat} {l : List UInt8} {ts : List Tok} {e : Option (Nat × Nat)}, Lx a l ts e → ∀ t ∈ ts, t.pos + t.text.length ≤ a + l.length := by
    intro a l ts e h
    induction h with
    | nil => simp
    | bad => simp
    | good a g T rest k v ts e h hT hr ih =>
      intro t ht
      rcases List.mem_cons.1 ht with rfl | ht
      · simp only [List.length_append]; omega
      · have := ih t ht; simp only [List.length_append]; omega
  have hp1 := hpos hx t1 (by simp)
  have hp2 := hpos hy t2 (by simp)
  rw [Nat.zero_add] at hp1 hp2
  have et : (m.drop (o.pos + 1)).take (t2.pos - (o.pos + 1)) = (m.take t2.pos).drop (o.pos + 1) := by
    rw [List.drop_take]
  rw [et] at c3
  refine ⟨p1 ++ [t1], (q5 ++ [o]) ++ (body ++ [t2]), p1, t1, o, t2, hle, hme, rfl, ?_, ?_, by simp; omega, by simp; omega, hlow, by omega, by omega, fun hc => ?_⟩
  · rw [List.getElem?_append_left (by simp; omega)]; exact ho
  · simp
  · obtain ⟨bd, d1, d2⟩ := lx_move c3 0
    have j1 := parts_ok c1 d1
    have j2 := parts_ok j1 lx_brace
    obtain ⟨A, hA⟩ : ∃ A, ((l.take t1.pos ++ [10]) ++ (m.take t2.pos).drop (o.pos + 1)) = A := ⟨_, rfl⟩
    rw [hA] at j2 ⊢
    have hs2 : sans [t2] = [(3, [125], 0)] := by
      obtain ⟨z1, z2⟩ := lx_close hy t2 (by simp) ht2
      unfold sans
      rw [List.map_cons, List.map_nil, z1, z2, ht2]; rfl
    have hlen2 : bd.length = body.length := sans_length d2
    obtain ⟨bs, hb1, hb2⟩ := hj (shift ((l.take t1.pos).length + 1) bd ++ shift (A.length + 1) [⟨3, [125], 0, 0⟩]) (by
      have e1 : ∀ x y : List Tok, sans (x ++ y) = sans x ++ sans y := fun x y => by unfold sans; rw [List.map_append]
      rw [e1, e1, sans_shift, sans_shift, d2, hs2]; rfl) (by
      simp only [List.length_append, List.length_cons, List.length_nil, shift, List.length_map] at hc ⊢
      unfold fuel; omega)
    rw [List.append_assoc p1] at j2
    have hAl : A.length ≤ 8001 := by
      rw [← hA]
      simp only [List.length_append, List.length_take, List.length_drop, List.length_cons, List.length_nil]; omega
    have eA : A ++ [10, 125] = (A ++ [10]) ++ [125] := by simp
    have hcnt : (p1 ++ (shift ((l.take t1.pos).length + 1) bd ++ shift (A.length + 1) [⟨3, [125], 0, 0⟩])).length ≤ 5000 := by
      rw [List.length_append, List.length_append, shift_length, shift_length]
      simp only [List.length_append, List.length_cons, List.length_nil] at hc ⊢
      omega
    have j3 := lexAll_done (l := (A ++ [10]) ++ [125]) (by simp only [List.length_append, List.length_cons, List.length_nil]; omega) j2 hcnt
    refine ⟨bs, ?_, hb2⟩
    rw [eA]
    unfold parseAll
    rw [j3, if_pos rfl]
    simp only [parse_ok hb1]
    rfl
end Foyer.Plan
