/-
  The plain mathematics of levels whose items are put in another order.
-/
import Derived.Test.YtkggmehbkefgjaaDoorMathJoin
namespace Foyer.Plan
open Foyer.Lexer

/-! ### Names and numbers are no symbols -/
def Sane (t : Tok) : Prop := t.kind ≠ 3 → t.text ≠ [123] ∧ t.text ≠ [125] ∧ t.text ≠ [59]
theorem sane_byte : ∀ c : UInt8, (c = 123 ∨ c = 125 ∨ c = 59) → isLetter c = false ∧ isDigit c = false := all_bytes (by decide +kernel)
theorem isTok_sane {k v : Nat} {T : List UInt8} {nx : Option UInt8} (h : IsTok k T v nx) (hk : k ≠ 3) : ∀ c, c = 123 ∨ c = 125 ∨ c = 59 → T ≠ [c] := by
  intro c hc e
  subst e
  obtain ⟨c1, c2⟩ := sane_byte c hc
  rcases h with ⟨_, _, _, ⟨d, r, e, h4⟩, _⟩ | ⟨_, _, _, _, h3, _⟩ | ⟨h1, _⟩ | ⟨h1, _⟩ | ⟨h1, _⟩
  · cases e; rw [c1] at h4; cases h4
  · have := h3 c (by simp); rw [c2] at this; cases this
  all_goals exact hk h1
theorem lx_sane {a : Nat} {l : List UInt8} {ts : List Tok} {e : Option (Nat × Nat)} (h : Lx a l ts e) : ∀ t ∈ ts, Sane t := by
  induction h with
  | nil => simp
  | bad => simp
  | good a g T rest k v ts e hg hT hr ih =>
    intro t ht
    rcases List.mem_cons.1 ht with rfl | ht
    · intro hk
      have := isTok_sane hT hk
      exact ⟨this 123 (Or.inl rfl), this 125 (Or.inr (Or.inl rfl)), this 59 (Or.inr (Or.inr rfl))⟩
    · exact ih t ht

/-! ### Braces and semicolons -/
def depthStep (d : Int) (t : Tok) : Int := d + (if t.text = wOpen then 1 else 0) - (if t.text = wClose then 1 else 0)
def stops (d : Int) (t : Tok) : Prop := d = 0 ∧ (t.text = wClose ∨ t.text = wSemi)
instance (d : Int) (t : Tok) : Decidable (stops d t) := by unfold stops; exact inferInstance
/-- The tokens are walked through, and none of them ends an item. -/
def run : Int → List Tok → Int → Prop
  | d, [], e => d = e
  | d, t :: r, e => 0 ≤ depthStep d t ∧ ¬ stops (depthStep d t) t ∧ run (depthStep d t) r e
theorem run_append : ∀ {a b : List Tok} {d e f : Int}, run d a e → run e b f → run d (a ++ b) f
  | [], _, _, _, _, h, k => by cases h; exact k
  | _ :: _, _, _, _, _, ⟨h1, h2, h3⟩, k => ⟨h1, h2, run_append h3 k⟩
/-- The tokens of one item, as far as braces and semicolons show. -/
def oneItem : Int → List Tok → Bool
  | _, [] => true
  | d, t :: r => decide (0 ≤ depthStep d t) && (decide (stops (depthStep d t) t) == r.isEmpty) && oneItem (depthStep d t) r
theorem oneItem_run : ∀ {l : List Tok} {d : Int}, oneItem d l = true → l ≠ [] → ∃ body t e, l = body ++ [t] ∧ run d body e ∧ stops (depthStep e t) t
  | [], _, _, h => absurd rfl h
  | [t], d, h, _ => by
    simp only [oneItem, Bool.and_eq_true, List.isEmpty_nil, beq_true, decide_eq_true_eq, and_true] at h
    exact ⟨[], t, d, rfl, rfl, h.2⟩
  | t :: u :: r, d, h, _ => by
    rw [oneItem] at h
    simp only [Bool.and_eq_true, List.isEmpty_cons, beq_false, decide_eq_true_eq, Bool.not_eq_true', decide_eq_false_iff_not] at h
    obtain ⟨body, v, e, hl, hr, hs⟩ := oneItem_run h.2 (by simp)
    exact ⟨t :: body, v, e, by rw [hl, List.cons_append], ⟨h.1.1, h.1.2, hr⟩, hs⟩
/-- The first end is the only one. -/
theorem run_unique : ∀ {a b r s : List Tok} {t u : Tok} {d e f : Int}, a ++ t :: r = b ++ u :: s → run d a e → stops (depthStep e t) t → run d b f → stops (depthStep f u) u → a = b ∧ t = u ∧ r = s
  | [], [], r, s, t, u, d, e, f, h, _, _, _, _ => by cases h; exact ⟨rfl, rfl, rfl⟩
  | [], v :: b, r, s, t, u, d, e, f, h, h1, h2, h3, _ => by
    cases h; cases h1
    exact absurd h2 h3.2.1
  | v :: a, [], r, s, t, u, d, e, f, h, h1, _, h3, h4 => by
    cases h; cases h3
    exact absurd h4 h1.2.1
  | v :: a, w :: b, r, s, t, u, d, e, f, h, h1, h2, h3, h4 => by
    rw [List.cons_append, List.cons_append, List.cons.injEq] at h
    obtain ⟨rfl, h⟩ := h
    obtain ⟨rfl, rfl, rfl⟩ := run_unique h h1.2.2 h2 h3.2.2 h4
    exact ⟨rfl, rfl, rfl⟩

/-! ### What a parser takes -/
section
variable {α β : Type}
def Runs (p : Par α) (d e : Int) : Prop := ∀ ts a r, (∀ t ∈ ts, Sane t) → p ts = .ok a r → ∃ pre, ts = pre ++ r ∧ run d pre e
/-- A part that ends with the first end of an item. -/
def Ends (p : Par α) (d : Int) : Prop := ∀ ts a r, (∀ t ∈ ts, Sane t) → p ts = .ok a r → ∃ pre t e, ts = pre ++ t :: r ∧ run d pre e ∧ stops (depthStep e t) t
theorem runs_give (a : α) (d : Int) : Runs (give a) d d := fun ts b r _ h => by cases h; exact ⟨[], rfl, rfl⟩
theorem runs_take {q : Tok → Bool} {d e : Int} (h : ∀ t, Sane t → q t = true → 0 ≤ depthStep d t ∧ ¬ stops (depthStep d t) t ∧ depthStep d t = e) : Runs (takeP q) d e := fun ts t r hs hh => by
  obtain ⟨rfl, hq⟩ := takeP_ok hh
  exact ⟨[t], rfl, h t (hs t (by simp)) hq⟩
theorem runs_then {p : Par α} {f : α → Par β} {d e g : Int} (hp : Runs p d e) (hf : ∀ a, Runs (f a) e g) : Runs (andThen p f) d g := fun ts b r hs h => by
  obtain ⟨a, s, h1, h2⟩ := then_ok h
  obtain ⟨pre, rfl, k1⟩ := hp _ _ _ hs h1
  obtain ⟨pre2, rfl, k2⟩ := hf a _ _ _ (fun t ht => hs t (List.mem_append_right _ ht)) h2
  exact ⟨pre ++ pre2, by simp, run_append k1 k2⟩
theorem ends_then {p : Par α} {f : α → Par β} {d e : Int} (hp : Runs p d e) (hf : ∀ a, Ends (f a) e) : Ends (andThen p f) d := fun ts b r hs h => by
  obtain ⟨a, s, h1, h2⟩ := then_ok h
  obtain ⟨pre, rfl, k1⟩ := hp _ _ _ hs h1
  obtain ⟨pre2, t, g, rfl, k2, k3⟩ := hf a _ _ _ (fun t ht => hs t (List.mem_append_right _ ht)) h2
  exact ⟨pre ++ pre2, t, g, by simp, run_append k1 k2, k3⟩
theorem ends_give {p : Par α} {f : α → Par β} {d : Int} (hp : Ends p d) (hf : ∀ a ts b r, f a ts = .ok b r → ts = r) : Ends (andThen p f) d := fun ts b r hs h => by
  obtain ⟨a, s, h1, h2⟩ := then_ok h
  obtain rfl := hf a _ _ _ h2
  exact hp _ _ _ hs h1
theorem runs_many {c : List UInt8} {p : Par α} {d : Int} (hp : Runs p d d) : ∀ n ts as r, (∀ t ∈ ts, Sane t) → many c p n ts = .ok as r → ∃ pre t, ts = pre ++ t :: r ∧ t.text = c ∧ run d pre d
  | 0, ts, as, r, _, h => by cases h
  | n + 1, ts, as, r, hs, h => by
    rcases many_ways c ts with ⟨t, s, rfl, ht⟩ | hn
    · rw [many_close ht] at h
      cases h
      exact ⟨[], t, rfl, ht, rfl⟩
    · rw [many_go hn] at h
      obtain ⟨a, s, h1, h2⟩ := then_ok h
      obtain ⟨bs, s2, h3, h4⟩ := then_ok h2
      cases h4
      obtain ⟨pre, rfl, k1⟩ := hp _ _ _ hs h1
      obtain ⟨pre2, t, rfl, ht, k2⟩ := runs_many hp n _ _ _ (fun t ht => hs t (List.mem_append_right _ ht)) h3
      exact ⟨pre ++ pre2, t, by simp, ht, run_append k1 k2⟩
end
theorem flat_step {d : Int} {t : Tok} (h1 : t.text ≠ wOpen) (h2 : t.text ≠ wClose) (h3 : t.text ≠ wSemi) (hd : 0 ≤ d) : 0 ≤ depthStep d t ∧ ¬ stops (depthStep d t) t ∧ depthStep d t = d := by
  have e : depthStep d t = d := by unfold depthStep; rw [if_neg h1, if_neg h2]; omega
  rw [e]
  exact ⟨hd, fun h => h.2.elim h2 h3, rfl⟩
theorem sane_step {d : Int} {t : Tok} (h : Sane t) (hk : t.kind ≠ 3) (hd : 0 ≤ d) : 0 ≤ depthStep d t ∧ ¬ stops (depthStep d t) t ∧ depthStep d t = d :=
  flat_step (h hk).1 (h hk).2.1 (h hk).2.2 hd
theorem runs_word {s : List UInt8} (h : s ≠ wOpen ∧ s ≠ wClose ∧ s ≠ wSemi) {d : Int} (hd : 0 ≤ d) : Runs (word s) d d :=
  runs_then (runs_take fun t _ hq => by
    have e : t.text = s := of_decide_eq_true hq
    exact flat_step (by rw [e]; exact h.1) (by rw [e]; exact h.2.1) (by rw [e]; exact h.2.2) hd) fun _ => runs_give _ _
theorem runs_name {d : Int} (hd : 0 ≤ d) : Runs nameP d d :=
  runs_then (runs_take fun t hs hq => sane_step hs (by have : t.kind = 1 := of_decide_eq_true hq; omega) hd) fun _ => runs_give _ _
theorem runs_num {d : Int} (hd : 0 ≤ d) : Runs num d d :=
  runs_then (runs_take fun t hs hq => sane_step hs (by have : t.kind = 2 := of_decide_eq_true hq; omega) hd) fun _ => runs_give _ _
theorem runs_open : Runs (word wOpen) 0 1 :=
  runs_then (runs_take fun t _ hq => by
    have e : t.text = wOpen := of_decide_eq_true hq
    have e2 : depthStep 0 t = 1 := by unfold depthStep; rw [e]; decide
    rw [e2]; exact ⟨by omega, fun h => absurd h.1 (by decide), rfl⟩) fun _ => runs_give _ _
theorem runs_box {d : Int} (hd : 0 ≤ d) : Runs boxP d d := runs_then (runs_num hd) fun _ => runs_then (runs_num hd) fun _ => runs_then (runs_num hd) fun _ => runs_then (runs_num hd) fun _ => runs_give _ _
theorem runs_point {d : Int} (hd : 0 ≤ d) : Runs pointP d d := runs_then (runs_num hd) fun _ => runs_then (runs_num hd) fun _ => runs_give _ _
theorem runs_mark {d : Int} (hd : 0 ≤ d) : Runs markP d d := by
  refine runs_then (runs_take fun t _ hq => ?_) fun t => runs_then (runs_num hd) fun s => ?_
  · have hq : markKind t.text ≠ 0 := of_decide_eq_true hq
    exact flat_step (by rintro e; rw [e] at hq; exact hq (by decide)) (by rintro e; rw [e] at hq; exact hq (by decide)) (by rintro e; rw [e] at hq; exact hq (by decide)) hd
  · by_cases h : markKind t.text = 4
    · rw [if_pos h]; exact runs_then (runs_word (by decide) hd) fun _ => runs_then (runs_num hd) fun _ => runs_give _ _
    · rw [if_neg h]; exact runs_give _ _
theorem runs_marks : Runs (many wSemi markP fuel) 1 1 := fun ts as r hs h => by
  obtain ⟨pre, t, rfl, ht, k⟩ := runs_many (runs_mark (d := 1) (by omega)) _ _ _ _ hs h
  refine ⟨pre ++ [t], by simp, run_append k ?_⟩
  have e2 : depthStep 1 t = 1 := by unfold depthStep; rw [ht]; decide
  refine ⟨?_, ?_, ?_⟩
  · rw [e2]; omega
  · rw [e2]; exact fun h => absurd h.1 (by decide)
  · exact e2
theorem runs_row : Runs rowP 1 1 :=
  runs_then (runs_word (by decide) (by omega)) fun _ => runs_then (runs_name (by omega)) fun _ => runs_then (runs_word (by decide) (by omega)) fun _ => runs_then (runs_num (by omega)) fun _ => runs_then (runs_num (by omega)) fun _ =>
  runs_then (runs_word (by decide) (by omega)) fun _ => runs_then (runs_num (by omega)) fun _ => runs_then (runs_word (by decide) (by omega)) fun _ => runs_then (runs_num (by omega)) fun _ => runs_then (runs_word (by decide) (by omega)) fun _ =>
  runs_then (runs_num (by omega)) fun _ => runs_then runs_marks fun _ => runs_give _ _
theorem ends_rows : Ends (many wClose rowP fuel) 1 := fun ts as r hs h => by
  obtain ⟨pre, t, rfl, ht, k⟩ := runs_many runs_row _ _ _ _ hs h
  refine ⟨pre, t, 1, rfl, k, ?_, Or.inl ht⟩
  unfold depthStep; rw [ht]; decide
theorem ends_semi : Ends (word wSemi) 0 := fun ts a r hs h => by
  obtain ⟨t, rfl, ht, _⟩ := one_word h
  refine ⟨[], t, 0, rfl, rfl, ?_, Or.inr ht⟩
  unfold depthStep; rw [ht]; decide
theorem give_same {α β : Type} (f : α → β) : ∀ a ts b r, (fun a => give (f a)) a ts = .ok b r → ts = r := fun a ts b r h => by cases h; rfl
theorem ends_itemRest (k a : Nat) : Ends (itemRest k a) 0 := by
  unfold itemRest
  split
  · exact ends_give runs_block (give_same _)
  split
  · exact ends_give runs_area (give_same _)
  split
  · exact ends_then (runs_box (by omega)) fun _ => ends_give ends_semi (give_same _)
  split
  · exact ends_then (runs_box (by omega)) fun _ => ends_give ends_semi (give_same _)
  · exact ends_then (runs_point (by omega)) fun _ => ends_give ends_semi (give_same _)
where
  runs_block : Ends (blockP a) 0 := ends_then (runs_name (by omega)) fun _ => ends_then runs_open fun _ => ends_give ends_rows (give_same _)
  runs_area : Ends (areaP a) 0 := ends_then (runs_name (by omega)) fun _ => ends_then (runs_box (by omega)) fun _ => ends_then (runs_word (by decide) (by omega)) fun _ => ends_then (runs_num (by omega)) fun _ => ends_give ends_semi (give_same _)
theorem ends_item : Ends itemP 0 := ends_then (runs_take fun t _ hq => by
    have hq : sort t.text ≠ 0 := of_decide_eq_true hq
    exact flat_step (by rintro e; rw [e] at hq; exact hq (by decide)) (by rintro e; rw [e] at hq; exact hq (by decide)) (by rintro e; rw [e] at hq; exact hq (by decide)) (by omega)) fun _ => ends_itemRest _ _

/-! ### One item -/
def sortOf : ItemP → Nat
  | .block _ => 1
  | .area _ => 2
  | .aisle _ => 3
  | .pillar _ => 4
  | .door _ => 5
theorem sort_le (s : List UInt8) : sort s ≤ 5 := by
  unfold sort
  repeat' split
  all_goals omega
theorem item_sort {ts r : List Tok} {it : ItemP} (h : itemP ts = .ok it r) : ∃ t s, ts = t :: s ∧ sort t.text ≠ 0 ∧ sortOf it = sort t.text := by
  obtain ⟨t, s, h1, h2⟩ := then_ok h
  obtain ⟨rfl, hq⟩ := takeP_ok h1
  have hq : sort t.text ≠ 0 := of_decide_eq_true hq
  refine ⟨t, s, rfl, hq, ?_⟩
  have hle := sort_le t.text
  unfold itemRest at h2
  split at h2
  · obtain ⟨b, s2, h3, h4⟩ := then_ok h2; cases h4; simp only [sortOf]; omega
  split at h2
  · obtain ⟨b, s2, h3, h4⟩ := then_ok h2; cases h4; simp only [sortOf]; omega
  split at h2
  · obtain ⟨b, s2, h3, h4⟩ := then_ok h2; obtain ⟨c, s3, h5, h6⟩ := then_ok h4; cases h6; simp only [sortOf]; omega
  split at h2
  · obtain ⟨b, s2, h3, h4⟩ := then_ok h2; obtain ⟨c, s3, h5, h6⟩ := then_ok h4; cases h6; simp only [sortOf]; omega
  · obtain ⟨b, s2, h3, h4⟩ := then_ok h2; obtain ⟨c, s3, h5, h6⟩ := then_ok h4; cases h6; simp only [sortOf]; omega
/-- The text before a level's items, and its tokens. -/
def sortHead : List UInt8 := [104, 97, 108, 108, 32, 104, 32, 115, 116, 97, 103, 101, 32, 48, 32, 48, 32, 123, 32, 108, 101, 118, 101, 108, 32, 97, 32, 104, 101, 105, 103, 104, 116, 32, 48, 32, 123]
def sortTail : List UInt8 := [125, 32, 125]
def headToks : List Tok := [⟨1, wHall, 0, 0⟩, ⟨1, [104], 0, 5⟩, ⟨1, wStage, 0, 7⟩, ⟨2, [48], 0, 13⟩, ⟨2, [48], 0, 15⟩, ⟨3, wOpen, 0, 17⟩, ⟨1, wLevel, 0, 19⟩, ⟨1, [97], 0, 25⟩, ⟨1, wHeight, 0, 27⟩, ⟨2, [48], 0, 34⟩, ⟨3, wOpen, 0, 36⟩]
def tailToks : List Tok := [⟨3, wClose, 0, 0⟩, ⟨3, wClose, 0, 2⟩]
theorem lx_head : Lx 0 sortHead headToks none := by
  have := raw_lx 40 0 sortHead (by decide)
  rw [show raw 40 0 sortHead = (headToks, none) by decide +kernel] at this
  exact this
theorem lx_tail : Lx 0 sortTail tailToks none := by
  have := raw_lx 40 0 sortTail (by decide)
  rw [show raw 40 0 sortTail = (tailToks, none) by decide +kernel] at this
  exact this
/-- What parsing gives behind the head. -/
theorem hall_head (X : List Tok) : hallP (headToks ++ X) = andThen (andThen (many wClose itemP fuel) fun is => give (levelOf [97] 0 is 19)) (fun l => andThen (many wClose levelP 5000) fun ls => give ⟨[104], 0, 0, l :: ls⟩) X := by
  have hd : headToks ++ X = ⟨1, wHall, 0, 0⟩ :: ⟨1, [104], 0, 5⟩ :: ⟨1, wStage, 0, 7⟩ :: ⟨2, [48], 0, 13⟩ :: ⟨2, [48], 0, 15⟩ :: ⟨3, wOpen, 0, 17⟩ :: ⟨1, wLevel, 0, 19⟩ :: ⟨1, [97], 0, 25⟩ :: ⟨1, wHeight, 0, 27⟩ :: ⟨2, [48], 0, 34⟩ :: ⟨3, wOpen, 0, 36⟩ :: X := rfl
  rw [hd]
  unfold hallP
  rw [then_of (word_pos (s := wHall) rfl), then_of (name_pos rfl), then_of (word_pos (s := wStage) rfl), then_of (num_pos rfl), then_of (num_pos rfl), then_of (word_pos (s := wOpen) rfl)]
  have hl : levelP (⟨1, wLevel, 0, 19⟩ :: ⟨1, [97], 0, 25⟩ :: ⟨1, wHeight, 0, 27⟩ :: ⟨2, [48], 0, 34⟩ :: ⟨3, wOpen, 0, 36⟩ :: X) = andThen (many wClose itemP fuel) (fun is => give (levelOf [97] 0 is 19)) X := by
    unfold levelP
    rw [then_of (word_pos (s := wLevel) rfl), then_of (name_pos rfl), then_of (word_pos (s := wHeight) rfl), then_of (num_pos rfl), then_of (word_pos (s := wOpen) rfl)]
  rw [show fuel = 5000 + 1 from rfl]
  conv => lhs; unfold andThen
  rw [many_go (n := 5000) (fun t r e => by cases e; decide)]
  unfold andThen give at hl ⊢
  rw [hl]
  unfold fuel
  cases many wClose itemP 5001 X with
  | bad r => rfl
  | ok a r => simp only; cases many wClose levelP 5000 r <;> rfl
/-- A text that is one item of a level. -/
theorem one_item {l : List Tok} (hs : ∀ t ∈ l, Sane t) (hl : l ≠ []) (h1 : oneItem 0 l = true) {x : HallP} (hp : hallP (headToks ++ (l ++ tailToks)) = .ok x []) :
    ∃ it, (∀ r, itemP (l ++ r) = .ok it r) ∧ (∃ t s, l = t :: s ∧ sortOf it = sort t.text) ∧ ∀ t s, l = t :: s → t.text ≠ wClose := by
  obtain ⟨body, t, e, rfl, hr, ht⟩ := oneItem_run h1 hl
  rw [hall_head] at hp
  obtain ⟨lv, s, h2, _⟩ := then_ok hp
  obtain ⟨is, s2, h3, _⟩ := then_ok h2
  have hst : ∀ u ∈ tailToks, Sane u := fun u hu hk => by
    rcases List.mem_cons.1 hu with rfl | hu
    · exact absurd rfl hk
    · rcases List.mem_cons.1 hu with rfl | hu
      · exact absurd rfl hk
      · simp at hu
  have hn : ∀ u r, (body ++ [t]) ++ tailToks = u :: r → u.text ≠ wClose := by
    intro u r hu hc
    cases body with
    | nil =>
      cases hr
      cases hu
      have := ht.1
      unfold depthStep at this
      rw [hc] at this
      exact absurd this (by decide)
    | cons v body =>
      cases hu
      have := hr.1
      unfold depthStep at this
      rw [hc] at this
      exact absurd this (by decide)
  rw [show fuel = 5000 + 1 from rfl, many_go hn] at h3
  obtain ⟨it, s3, h4, _⟩ := then_ok h3
  obtain ⟨pre2, u, f, h5, h6, h7⟩ := ends_item _ _ _ (fun v hv => by
    rcases List.mem_append.1 hv with hv | hv
    · exact hs v hv
    · exact hst v hv) h4
  have h8 : body ++ t :: tailToks = pre2 ++ u :: s3 := by rw [← h5]; simp
  obtain ⟨rfl, rfl, rfl⟩ := run_unique h8 hr ht h6 h7
  obtain ⟨pre3, h9, h10⟩ := det_item.ok _ _ _ h4
  obtain rfl : body ++ [t] = pre3 := List.append_cancel_right h9
  refine ⟨it, h10, ?_, ?_⟩
  · obtain ⟨v, s4, h11, _, h12⟩ := item_sort h4
    cases body with
    | nil => cases h11; exact ⟨_, _, rfl, h12⟩
    | cons w body => cases h11; exact ⟨_, _, rfl, h12⟩
  · intro v s4 hv
    exact hn v (s4 ++ tailToks) (by rw [hv]; rfl)

/-! ### Several items -/
theorem many_items : ∀ (ls : List (List Tok)) (its : List ItemP) (n : Nat) (c : Tok) (r : List Tok), All2 (fun l it => (∀ r, itemP (l ++ r) = .ok it r) ∧ (∃ t s, l = t :: s) ∧ ∀ t s, l = t :: s → t.text ≠ wClose) ls its → ls.length < n → c.text = wClose →
    many wClose itemP n (ls.flatten ++ c :: r) = .ok its r
  | [], _, 0, _, _, _, h, _ => by simp at h
  | [], _, n + 1, c, r, h, _, hc => by
    cases h
    exact many_close hc
  | l :: ls, _, 0, _, _, _, h, _ => by simp at h
  | l :: ls, _, n + 1, c, r, .cons (b := it) (bs := its) ⟨h1, ⟨t, s, h2⟩, h3⟩ hh, hn, hc => by
    rw [List.flatten_cons, List.append_assoc, many_go (fun u v e => by rw [h2] at e; cases e; exact h3 t s h2), then_of (h1 _), then_of (many_items ls its n c r hh (by simpa using hn) hc)]
    rfl
theorem hall_items {ls : List (List Tok)} {its : List ItemP} (h : All2 (fun l it => (∀ r, itemP (l ++ r) = .ok it r) ∧ (∃ t s, l = t :: s) ∧ ∀ t s, l = t :: s → t.text ≠ wClose) ls its) (hn : ls.length ≤ 30) :
    hallP (headToks ++ (ls.flatten ++ tailToks)) = .ok ⟨[104], 0, 0, [levelOf [97] 0 its 19]⟩ [] := by
  rw [hall_head]
  have := many_items ls its fuel ⟨3, wClose, 0, 0⟩ [⟨3, wClose, 0, 2⟩] h (by unfold fuel; omega) rfl
  unfold tailToks
  have h2 : andThen (many wClose itemP fuel) (fun is => give (levelOf [97] 0 is 19)) (ls.flatten ++ [⟨3, wClose, 0, 0⟩, ⟨3, wClose, 0, 2⟩]) = .ok (levelOf [97] 0 its 19) [⟨3, wClose, 0, 2⟩] := then_of this
  rw [then_of h2]
  show andThen (many wClose levelP 5000) (fun ls => give (⟨[104], 0, 0, levelOf [97] 0 its 19 :: ls⟩ : HallP)) [⟨3, wClose, 0, 2⟩] = _
  rw [then_of (show many wClose levelP 5000 [⟨3, wClose, 0, 2⟩] = .ok [] [] from many_close (n := 4999) rfl)]
  rfl

/-! ### The texts -/
/-- The text of items, each on a line of its own, behind a text. -/
def rows (p : List UInt8) (is : List (List UInt8)) : List UInt8 := is.foldl (fun t i => (t ++ [10]) ++ i) p
theorem rows_snoc (p : List UInt8) (is : List (List UInt8)) (i : List UInt8) : rows p (is ++ [i]) = (rows p is ++ [10]) ++ i := by unfold rows; rw [List.foldl_append]; rfl
theorem rows_append (p : List UInt8) (is js : List (List UInt8)) : rows (rows p is) js = rows p (is ++ js) := by unfold rows; rw [List.foldl_append]
theorem sans_append (x y : List Tok) : sans (x ++ y) = sans x ++ sans y := by unfold sans; rw [List.map_append]
theorem rows_length : ∀ (is : List (List UInt8)) (p : List UInt8), (∀ i ∈ is, i.length ≤ 200) → (rows p is).length ≤ p.length + 201 * is.length
  | [], p, _ => by unfold rows; simp
  | i :: is, p, h => by
    have h1 := h i (by simp)
    have h2 := rows_length is ((p ++ [10]) ++ i) (fun j hj => h j (List.mem_cons_of_mem _ hj))
    have e : rows p (i :: is) = rows ((p ++ [10]) ++ i) is := rfl
    rw [e]
    simp only [List.length_append, List.length_cons, List.length_nil] at h2 ⊢
    omega
/-- The tokens of such a text. -/
theorem lx_rows : ∀ (is : List (List UInt8)) (ls : List (List Tok)) (p : List UInt8) (ps : List Tok), All2 (fun i l => Lx 0 i l none) is ls → Lx 0 p ps none → ∃ qs, Lx 0 (rows p is) (ps ++ qs) none ∧ sans qs = sans ls.flatten
  | [], _, p, ps, h, hp => by
    cases h
    exact ⟨[], by simpa [rows] using hp, rfl⟩
  | i :: is, _, p, ps, .cons (b := l) (bs := ls) h hh, hp => by
    obtain ⟨qs, h1, h2⟩ := lx_rows is ls ((p ++ [10]) ++ i) (ps ++ shift (p.length + 1) l) hh (parts_ok hp h)
    refine ⟨shift (p.length + 1) l ++ qs, ?_, ?_⟩
    · rw [← List.append_assoc]; exact h1
    · rw [sans_append, sans_shift, h2, List.flatten_cons, sans_append]
theorem sane_of_lex {l : List UInt8} {ts : List Tok} (h : Lx 0 l ts none) : ∀ t ∈ ts, Sane t := lx_sane h
/-- The tokens of a text that has no error. -/
theorem lexAll_ok {l : List UInt8} {ts : List Tok} {O : Int} (hl : l.length ≤ 5000) (h : lexAll l = (ts, 0, O)) : Lx 0 l ts none := by
  obtain ⟨us, e, hx⟩ := lx_some 0 l
  cases e with
  | some y =>
    obtain ⟨d, p⟩ := y
    obtain ⟨h1, _, _⟩ := lx_err hx d p rfl
    rw [lexAll_some hl hx] at h
    simp only [Prod.mk.injEq] at h
    omega
  | none =>
    rw [lexAll_none hl hx] at h
    simp only [Prod.mk.injEq] at h
    rw [← h.1]; exact hx
/-- What the law asks of a text before it goes on. -/
structure Item (i : List UInt8) (l : List Tok) (it : ItemP) : Prop where
  len : i.length ≤ 200
  lx : Lx 0 i l none
  item : ∀ r, itemP (l ++ r) = .ok it r
  head : ∃ t s, l = t :: s ∧ sortOf it = sort t.text
  open_ : ∀ t s, l = t :: s → t.text ≠ wClose
theorem item_of {i : List UInt8} {l : List Tok} {O : Int} {x : HallP} {Q : Int} (hi : i.length ≤ 200) (hl : lexAll i = (l, 0, O)) (h0 : l ≠ []) (h1 : oneItem 0 l = true) (hp : parseAll (((sortHead ++ [10]) ++ i) ++ [10, 125, 32, 125]) = (x, 0, Q)) : ∃ it, Item i l it := by
  have hx := lexAll_ok (by omega) hl
  have j1 := parts_ok (parts_ok lx_head hx) lx_tail
  have e : ((sortHead ++ [10]) ++ i) ++ [10, 125, 32, 125] = (((sortHead ++ [10]) ++ i) ++ [10]) ++ sortTail := by unfold sortTail; simp
  rw [e] at hp
  obtain ⟨ts, h2, _, h4⟩ := parseAll_inv (by unfold sortHead sortTail; simp only [List.length_append, List.length_cons, List.length_nil]; omega) hp
  obtain ⟨rfl, _⟩ := lx_det h2 j1
  have := rel_hall ((headToks ++ shift (sortHead.length + 1) l) ++ shift (((sortHead ++ [10]) ++ i).length + 1) tailToks) (headToks ++ (l ++ tailToks)) (by simp only [sans_append, sans_shift, List.append_assoc])
  rw [h4] at this
  cases h5 : hallP (headToks ++ (l ++ tailToks)) with
  | bad r => rw [h5] at this; exact this.elim
  | ok a r =>
    rw [h5] at this
    obtain rfl := sans_nil this.2
    obtain ⟨it, k1, ⟨t, s, k2, k3⟩, k4⟩ := one_item (lx_sane hx) h0 h1 h5
    exact ⟨it, hi, hx, k1, ⟨t, s, k2, k3⟩, k4⟩
/-- A list of such texts. -/
inductive Items : List (List UInt8) → List (List Tok) → List ItemP → Prop
  | nil : Items [] [] []
  | cons {i : List UInt8} {l : List Tok} {it : ItemP} {is : List (List UInt8)} {ls : List (List Tok)} {its : List ItemP} (h : Item i l it) (hh : Items is ls its) : Items (i :: is) (l :: ls) (it :: its)
theorem Items.lx {is : List (List UInt8)} {ls : List (List Tok)} {its : List ItemP} (h : Items is ls its) : All2 (fun i l => Lx 0 i l none) is ls := by
  induction h with
  | nil => exact .nil
  | cons h _ ih => exact .cons h.lx ih
theorem Items.its {is : List (List UInt8)} {ls : List (List Tok)} {its : List ItemP} (h : Items is ls its) : All2 (fun l it => (∀ r, itemP (l ++ r) = .ok it r) ∧ (∃ t s, l = t :: s) ∧ ∀ t s, l = t :: s → t.text ≠ wClose) ls its := by
  induction h with
  | nil => exact .nil
  | cons h _ ih =>
    obtain ⟨t, s, e, _⟩ := h.head
    exact .cons ⟨h.item, ⟨t, s, e⟩, h.open_⟩ ih
theorem Items.len {is : List (List UInt8)} {ls : List (List Tok)} {its : List ItemP} (h : Items is ls its) : (∀ i ∈ is, i.length ≤ 200) ∧ ls.length = is.length := by
  induction h with
  | nil => exact ⟨by simp, rfl⟩
  | cons h _ ih =>
    refine ⟨fun i hi => ?_, by simp [ih.2]⟩
    rcases List.mem_cons.1 hi with rfl | hi
    · exact h.len
    · exact ih.1 i hi
theorem Items.append {is is' : List (List UInt8)} {ls ls' : List (List Tok)} {its its' : List ItemP} (h : Items is ls its) (h' : Items is' ls' its') : Items (is ++ is') (ls ++ ls') (its ++ its') := by
  induction h with
  | nil => exact h'
  | cons h _ ih => exact .cons h ih
/-- What parsing such a text returns. -/
theorem parse_items {is : List (List UInt8)} {ls : List (List Tok)} {its : List ItemP} (h : Items is ls its) (hn : is.length ≤ 30) :
    (5000 < 13 + ls.flatten.length → parseAll (rows sortHead is ++ [10, 125, 32, 125]) = (noHall, 3, (parseAll (rows sortHead is ++ [10, 125, 32, 125])).2.2)) ∧
    (13 + ls.flatten.length ≤ 5000 → ∃ x, parseAll (rows sortHead is ++ [10, 125, 32, 125]) = (x, 0, 0) ∧ x.bare = HallP.bare ⟨[104], 0, 0, [levelOf [97] 0 its 19]⟩) := by
  obtain ⟨qs, h1, h2⟩ := lx_rows is ls sortHead headToks h.lx lx_head
  have h3 := parts_ok h1 lx_tail
  have e : rows sortHead is ++ [10, 125, 32, 125] = (rows sortHead is ++ [10]) ++ sortTail := by unfold sortTail; simp
  rw [e]
  have hlen := rows_length is sortHead h.len.1
  have hle : ((rows sortHead is ++ [10]) ++ sortTail).length ≤ 20000 := by
    have e1 : sortHead.length = 37 := rfl
    have e2 : sortTail.length = 3 := rfl
    simp only [List.length_append, List.length_cons, List.length_nil]
    omega
  obtain ⟨T, hT⟩ : ∃ T, (headToks ++ qs) ++ shift ((rows sortHead is).length + 1) tailToks = T := ⟨_, rfl⟩
  rw [hT] at h3
  have hq : qs.length = ls.flatten.length := sans_length h2
  have hTl : T.length = 13 + ls.flatten.length := by
    rw [← hT, List.length_append, List.length_append, shift_length, hq]
    have e1 : headToks.length = 11 := rfl
    have e2 : tailToks.length = 2 := rfl
    omega
  constructor
  · intro hc
    have e5 : (T.take 5000).length = 5000 := by rw [List.length_take]; omega
    obtain ⟨t, us, hd⟩ : ∃ t us, T.drop 5000 = t :: us := by
      cases hd : T.drop 5000 with
      | nil => have := congrArg List.length hd; simp only [List.length_drop, List.length_nil] at this; omega
      | cons t us => exact ⟨t, us, rfl⟩
    have h4 : Lx 0 ((rows sortHead is ++ [10]) ++ sortTail) (T.take 5000 ++ t :: us) none := by rw [← hd, List.take_append_drop]; exact h3
    have h5 := lexAll_many hle h4 e5
    unfold parseAll
    rw [h5]
    rfl
  · intro hc
    have h5 := lexAll_done hle h3 (by omega)
    have h6 := hall_items h.its (by rw [h.len.2]; exact hn)
    have h7 := rel_hall T (headToks ++ (ls.flatten ++ tailToks)) (by rw [← hT]; simp only [sans_append, sans_shift, List.append_assoc, h2])
    rw [h6] at h7
    unfold parseAll
    rw [h5, if_pos rfl]
    cases h8 : hallP T with
    | bad r => rw [h8] at h7; exact h7.elim
    | ok a r =>
      rw [h8] at h7
      obtain rfl : r = [] := by
        have := sans_length h7.2
        exact List.length_eq_zero_iff.1 this
      simp only [parse_ok h8]
      exact ⟨a, rfl, h7.1⟩
/-! ### The order of sorts -/
def firsts (k : Nat) (its : List ItemP) : List ItemP := its.filter fun it => decide (sortOf it = k)
def others (k : Nat) (its : List ItemP) : List ItemP := its.filter fun it => !decide (sortOf it = k)
theorem filterMap_sorts {β : Type} (f : ItemP → Option β) (j : Nat) (hf : ∀ it, sortOf it ≠ j → f it = none) (k : Nat) (its : List ItemP) : (firsts k its ++ others k its).filterMap f = its.filterMap f := by
  rw [List.filterMap_append]
  have key : ∀ its : List ItemP, (firsts k its).filterMap f ++ (others k its).filterMap f = its.filterMap f := by
    intro its
    by_cases hk : k = j
    · subst hk
      have h2 : ∀ its : List ItemP, (others k its).filterMap f = [] := by
        intro its
        rw [List.filterMap_eq_nil_iff]
        intro it hi
        unfold others at hi
        rw [List.mem_filter] at hi
        exact hf it (by simpa using hi.2)
      rw [h2, List.append_nil]
      induction its with
      | nil => rfl
      | cons it its ih =>
        unfold firsts at ih ⊢
        by_cases hs : sortOf it = k
        · rw [List.filter_cons_of_pos (by simpa using hs)]
          cases hx : f it with
          | none => rw [List.filterMap_cons_none hx, List.filterMap_cons_none hx]; exact ih
          | some b => rw [List.filterMap_cons_some hx, List.filterMap_cons_some hx, ih]
        · rw [List.filter_cons_of_neg (by simpa using hs), List.filterMap_cons_none (hf it hs)]; exact ih
    · have h2 : (firsts k its).filterMap f = [] := by
        rw [List.filterMap_eq_nil_iff]
        intro it hi
        unfold firsts at hi
        rw [List.mem_filter] at hi
        have : sortOf it = k := by simpa using hi.2
        exact hf it (by omega)
      rw [h2, List.nil_append]
      induction its with
      | nil => rfl
      | cons it its ih =>
        have h3 : (firsts k its).filterMap f = [] := by
          rw [List.filterMap_eq_nil_iff]
          intro it hi
          unfold firsts at hi
          rw [List.mem_filter] at hi
          have : sortOf it = k := by simpa using hi.2
          exact hf it (by omega)
        have ih := ih h3
        unfold others at ih ⊢
        by_cases hs : sortOf it = k
        · rw [List.filter_cons_of_neg (by simpa using hs), List.filterMap_cons_none (hf it (by omega))]; exact ih
        · rw [List.filter_cons_of_pos (by simpa using hs)]
          cases hx : f it with
          | none => rw [List.filterMap_cons_none hx, List.filterMap_cons_none hx]; exact ih
          | some b => rw [List.filterMap_cons_some hx, List.filterMap_cons_some hx, ih]
  exact key its
theorem level_sorts (n : List UInt8) (h : Nat) (k : Nat) (its : List ItemP) (p : Nat) : levelOf n h (firsts k its ++ others k its) p = levelOf n h its p := by
  unfold levelOf blocksOf areasOf aislesOf pillarsOf doorsOf
  rw [filterMap_sorts _ 1 (fun it h => by cases it <;> first | rfl | exact absurd rfl h), filterMap_sorts _ 2 (fun it h => by cases it <;> first | rfl | exact absurd rfl h), filterMap_sorts _ 3 (fun it h => by cases it <;> first | rfl | exact absurd rfl h), filterMap_sorts _ 4 (fun it h => by cases it <;> first | rfl | exact absurd rfl h), filterMap_sorts _ 5 (fun it h => by cases it <;> first | rfl | exact absurd rfl h)]
/-- The key words of the sorts. -/
def sortWords : List (List UInt8) := [wBlock, wArea, wAisle, wPillar, wDoor]
theorem sort_word : ∀ k, k < 5 → sort (sortWords.getD k []) = k + 1 := by decide
theorem sort_iff {s : List UInt8} (h : sort s ≠ 0) (k : Nat) (hk : k < 5) : s = sortWords.getD k [] ↔ sort s = k + 1 := by
  constructor
  · rintro rfl; exact sort_word k hk
  · intro hs
    unfold sort at hs
    have : k = 0 ∨ k = 1 ∨ k = 2 ∨ k = 3 ∨ k = 4 := by omega
    rcases this with rfl | rfl | rfl | rfl | rfl <;> (repeat' split at hs) <;> first | omega | (subst s; rfl)
/-- Whether a text is one of the sort whose word is given. -/
def fits (w : List UInt8) (i : List UInt8) : Bool := decide ((lexAll i).1.head?.map (·.text) = some w)
theorem items_sorts {k : Nat} (hk : k < 5) {is : List (List UInt8)} {ls : List (List Tok)} {its : List ItemP} (h : Items is ls its) : ∃ ls1 ls2, Items (is.filter fun i => fits (sortWords.getD k []) i) ls1 (firsts (k + 1) its) ∧
    Items (is.filter fun i => !fits (sortWords.getD k []) i) ls2 (others (k + 1) its) ∧ ls1.flatten.length + ls2.flatten.length = ls.flatten.length := by
  induction h with
  | nil => exact ⟨[], [], .nil, .nil, rfl⟩
  | @cons i l it is ls its h _ ih =>
    obtain ⟨ls1, ls2, h1, h2, h3⟩ := ih
    obtain ⟨t, s, e, hs⟩ := h.head
    have hle := lexAll_done (by have := h.len; omega) h.lx (by have := lx_count h.lx; have := h.len; omega)
    have hz : sort t.text ≠ 0 := by rw [← hs]; cases it <;> simp [sortOf]
    have hf : fits (sortWords.getD k []) i = decide (sortOf it = k + 1) := by
      unfold fits
      rw [hle, e]
      simp only [List.head?_cons, Option.map_some, Option.some.injEq]
      rw [hs]
      exact decide_eq_decide.2 (sort_iff hz k hk)
    by_cases hc : sortOf it = k + 1
    · refine ⟨l :: ls1, ls2, ?_, ?_, ?_⟩
      · rw [List.filter_cons_of_pos (by rw [hf]; simpa using hc)]
        unfold firsts at h1 ⊢
        rw [List.filter_cons_of_pos (by simpa using hc)]
        exact .cons h h1
      · rw [List.filter_cons_of_neg (by rw [hf]; simpa using hc)]
        unfold others at h2 ⊢
        rw [List.filter_cons_of_neg (by simpa using hc)]
        exact h2
      · rw [List.flatten_cons, List.flatten_cons, List.length_append, List.length_append]; omega
    · refine ⟨ls1, l :: ls2, ?_, ?_, ?_⟩
      · rw [List.filter_cons_of_neg (by rw [hf]; simpa using hc)]
        unfold firsts at h1 ⊢
        rw [List.filter_cons_of_neg (by simpa using hc)]
        exact h1
      · rw [List.filter_cons_of_pos (by rw [hf]; simpa using hc)]
        unfold others at h2 ⊢
        rw [List.filter_cons_of_pos (by simpa using hc)]
        exact .cons h h2
      · rw [List.flatten_cons, List.flatten_cons, List.length_append, List.length_append]; omega
/-- P6.6: the items of one sort may be written in front of all others. -/
theorem sorts {k : Nat} (hk : k < 5) {is : List (List UInt8)} (hn : is.length ≤ 30) {ls : List (List Tok)} {its : List ItemP} (h : Items is ls its) :
    ∃ (x y : HallP) (E : Nat) (O Q : Int), parseAll (rows sortHead is ++ [10, 125, 32, 125]) = (x, E, O) ∧ parseAll (rows (rows sortHead (is.filter fun i => fits (sortWords.getD k []) i)) (is.filter fun i => !fits (sortWords.getD k []) i) ++ [10, 125, 32, 125]) = (y, E, Q) ∧ x.bare = y.bare := by
  obtain ⟨ls1, ls2, h1, h2, h3⟩ := items_sorts hk h
  rw [rows_append]
  have hh := h1.append h2
  have hm : ((is.filter fun i => fits (sortWords.getD k []) i) ++ (is.filter fun i => !fits (sortWords.getD k []) i)).length ≤ 30 := by
    have e : ∀ (p : List UInt8 → Bool) (l : List (List UInt8)), (l.filter p ++ l.filter fun i => !p i).length = l.length := by
      intro p l
      induction l with
      | nil => rfl
      | cons a l ih =>
        rw [List.length_append] at ih ⊢
        by_cases hp : p a = true
        · rw [List.filter_cons_of_pos hp, List.filter_cons_of_neg (by simp [hp])]; simp only [List.length_cons]; omega
        · rw [List.filter_cons_of_neg hp, List.filter_cons_of_pos (by simp [hp])]; simp only [List.length_cons]; omega
    rw [e]; exact hn
  obtain ⟨a1, a2⟩ := parse_items h hn
  obtain ⟨b1, b2⟩ := parse_items hh hm
  rw [List.flatten_append, List.length_append, h3] at b1 b2
  by_cases hc : 13 + ls.flatten.length ≤ 5000
  · obtain ⟨x, hx, hx2⟩ := a2 hc
    obtain ⟨y, hy, hy2⟩ := b2 hc
    refine ⟨x, y, 0, 0, 0, hx, hy, ?_⟩
    rw [hx2, hy2, level_sorts]
  · exact ⟨_, _, 3, _, _, a1 (by omega), b1 (by omega), rfl⟩
end Foyer.Plan
