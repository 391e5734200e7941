/-
  The plain mathematics of trees of digests: levels, roots, paths, what a path leads to, where two lists of texts with one digest are found. No program is spoken of here.
-/
import Derived.Test.YtkjgdgocjnocaaaDoorMathForm
namespace Foyer.Tree
open Go.Lib Foyer.Digest

abbrev T := List UInt8
def sLeaf : T := [108, 101, 97, 102]
def sNode : T := [110, 111, 100, 101]
def sNone : T := [110, 111, 110, 101]
def leafD (t : T) : T := listSum [sLeaf, t]
def nodeD (a b : T) : T := listSum [sNode, a, b]

/-! ### Levels -/
def up : List T → List T
  | a :: b :: r => nodeD a b :: up r
  | [a] => [a]
  | [] => []
theorem up_length : ∀ l : List T, (up l).length = (l.length + 1) / 2
  | [] => by rw [up]; rfl
  | [a] => by rw [up]; simp
  | a :: b :: r => by
    rw [up, List.length_cons, up_length r]
    simp only [List.length_cons]; omega
def ups (l : List T) : Nat → List T
  | 0 => l
  | k + 1 => up (ups l k)
theorem ups_succ (l : List T) : ∀ k, ups l (k + 1) = ups (up l) k
  | 0 => rfl
  | k + 1 => by
    show up (ups l (k + 1)) = up (ups (up l) k)
    rw [ups_succ l k]
def sz (n : Nat) : Nat → Nat
  | 0 => n
  | k + 1 => (sz n k + 1) / 2
theorem ups_length (l : List T) : ∀ k, (ups l k).length = sz l.length k
  | 0 => rfl
  | k + 1 => by rw [ups, up_length, ups_length l k]; rfl
theorem sz_le (n e : Nat) : ∀ k, n ≤ 2 ^ (k + e) → sz n k ≤ 2 ^ e
  | 0, h => by simpa [sz] using h
  | k + 1, h => by
    have := sz_le n (e + 1) k (by rw [show k + (e + 1) = k + 1 + e by omega]; exact h)
    rw [sz]; rw [Nat.pow_succ] at this; omega
theorem sz_pos {n : Nat} (h : 1 ≤ n) : ∀ k, 1 ≤ sz n k
  | 0 => h
  | k + 1 => by have := sz_pos h k; rw [sz]; omega
theorem up_small {l : List T} (h : l.length ≤ 1) : up l = l := by
  match l, h with
  | [], _ => rfl
  | [_], _ => rfl
theorem ups_small {l : List T} {k : Nat} (h : (ups l k).length ≤ 1) : ∀ j, ups l (k + j) = ups l k
  | 0 => rfl
  | j + 1 => by rw [← Nat.add_assoc, ups, ups_small h j, up_small h]
def leaves (l : List T) : List T := l.map leafD
def lvl (l : List T) (k : Nat) : List T := ups (leaves l) k
theorem lvl_length (l : List T) (k : Nat) : (lvl l k).length = sz l.length k := by unfold lvl leaves; rw [ups_length, List.length_map]
/-- How high is high enough. -/
def hi : Nat := 64
def top (L : List T) : T := (ups L hi).getD 0 []
def root (l : List T) : T := if l = [] then listSum [sNone] else top (leaves l)
theorem ups_hi {L : List T} {k : Nat} (hk : k ≤ hi) (h : (ups L k).length ≤ 1) : ups L hi = ups L k := by
  have := ups_small h (hi - k)
  rwa [show k + (hi - k) = hi by omega] at this
theorem top_at {L : List T} {k : Nat} (hk : k ≤ hi) (h : (ups L k).length ≤ 1) : top L = (ups L k).getD 0 [] := by unfold top; rw [ups_hi hk h]
theorem root_at {l : List T} (hne : l ≠ []) {k : Nat} (hk : k ≤ hi) (h : (lvl l k).length ≤ 1) : root l = (lvl l k).getD 0 [] := by
  unfold root; rw [if_neg hne]; exact top_at hk h

/-! ### The neighbour -/
def sib (i : Nat) : Nat := if i % 2 = 0 then i + 1 else i - 1
def join (i : Nat) (a p : T) : T := if i % 2 = 0 then nodeD a p else nodeD p a
theorem up_getD : ∀ (l : List T) (i : Nat), i < l.length → (up l).getD (i / 2) [] = if sib i < l.length then join i (l.getD i []) (l.getD (sib i) []) else l.getD i []
  | [], i, h => by simp at h
  | [a], i, h => by
    obtain rfl : i = 0 := by simp at h; exact h
    simp [up, sib]
  | a :: b :: r, 0, _ => by simp [up, sib, join]
  | a :: b :: r, 1, _ => by simp [up, sib, join]
  | a :: b :: r, i + 2, h => by
    have ih := up_getD r i (by simpa using h)
    rw [show (i + 2) / 2 = i / 2 + 1 by omega, up, List.getD_cons_succ, ih]
    have e : sib (i + 2) = sib i + 2 := by unfold sib; rw [show (i + 2) % 2 = i % 2 by omega]; split <;> omega
    rw [e]
    have ej : ∀ a p, join (i + 2) a p = join i a p := fun a p => by unfold join; rw [show (i + 2) % 2 = i % 2 by omega]
    simp only [List.length_cons, List.getD_cons_succ, ej]
    by_cases hs : sib i < r.length
    · rw [if_pos hs, if_pos (by omega)]
    · rw [if_neg hs, if_neg (by omega)]

/-! ### Paths -/
def beside (L : List T) (i : Nat) : List T := if sib i < L.length then [L.getD (sib i) []] else []
def pathTo (L : List T) (i : Nat) : Nat → List T
  | 0 => []
  | k + 1 => pathTo L i k ++ beside (ups L k) (i / 2 ^ k)
theorem pathTo_succ (L : List T) (i : Nat) : ∀ k, pathTo L i (k + 1) = beside L i ++ pathTo (up L) (i / 2) k
  | 0 => by simp [pathTo, ups]
  | k + 1 => by
    rw [pathTo, pathTo_succ L i k, pathTo, ups_succ, List.append_assoc]
    congr 3
    rw [Nat.div_div_eq_div_mul, Nat.pow_succ, Nat.mul_comm]
def path (l : List T) (i : Nat) : List T := pathTo (leaves l) i hi
theorem half_lt {i n : Nat} (h : i < n) : i / 2 < (n + 1) / 2 := by omega
theorem pow_lt (L : List T) {i : Nat} (h : i < L.length) : ∀ k, i / 2 ^ k < (ups L k).length
  | 0 => by simpa [ups] using h
  | k + 1 => by
    have := pow_lt L h k
    rw [ups, up_length, Nat.pow_succ, ← Nat.div_div_eq_div_mul]; omega
theorem beside_small {L : List T} {i : Nat} (hi : i < L.length) (h : L.length ≤ 1) : beside L i = [] := by
  obtain rfl : i = 0 := by omega
  unfold beside sib
  rw [if_neg (by simp; omega)]
theorem pathTo_small {L : List T} {i k : Nat} (hl : i < L.length) (h : (ups L k).length ≤ 1) : ∀ j, pathTo L i (k + j) = pathTo L i k
  | 0 => rfl
  | j + 1 => by
    rw [← Nat.add_assoc, pathTo, pathTo_small hl h j, beside_small (pow_lt L hl _) (by rw [ups_small h j]; exact h), List.append_nil]
theorem path_at {l : List T} {i k : Nat} (hl : i < l.length) (hk : k ≤ hi) (h : (lvl l k).length ≤ 1) : path l i = pathTo (leaves l) i k := by
  have := pathTo_small (L := leaves l) (i := i) (k := k) (by unfold leaves; rw [List.length_map]; exact hl) h (hi - k)
  rw [show k + (hi - k) = hi by omega] at this
  exact this

/-! ### What a path leads to -/
def climb : Nat → Nat → Nat → T → List T → Option (T × List T)
  | 0, _, _, a, ps => some (a, ps)
  | f + 1, n, i, a, ps => if sib i < n then (match ps with | [] => none | p :: r => climb f ((n + 1) / 2) (i / 2) (join i a p) r) else climb f ((n + 1) / 2) (i / 2) a ps
theorem climb_take {f n i : Nat} {a p : T} {r : List T} (h : sib i < n) : climb (f + 1) n i a (p :: r) = climb f ((n + 1) / 2) (i / 2) (join i a p) r := by simp [climb, h]
theorem climb_stop {f n i : Nat} {a : T} (h : sib i < n) : climb (f + 1) n i a [] = none := by simp [climb, h]
theorem climb_skip {f n i : Nat} {a : T} {ps : List T} (h : ¬ sib i < n) : climb (f + 1) n i a ps = climb f ((n + 1) / 2) (i / 2) a ps := by
  cases ps <;> simp [climb, h]
def checkN (r : T) (n i : Nat) (t : T) (ps : List T) : Bool := climb hi n i (leafD t) ps == some (r, [])
def check (r : T) (n i : Int) (t : T) (ps : List T) : Bool := decide (0 ≤ i) && decide (i < n) && checkN r n.toNat i.toNat t ps
/-- How many are needed. -/
def need : Nat → Nat → Nat → Nat
  | 0, _, _ => 0
  | f + 1, n, i => (if sib i < n then 1 else 0) + need f ((n + 1) / 2) (i / 2)
theorem climb_need : ∀ (f n i : Nat) (a : T) (ps : List T) (x : T) (r : List T), climb f n i a ps = some (x, r) → ps.length = need f n i + r.length
  | 0, n, i, a, ps, x, r, h => by simp [climb] at h; simp [need, h.2]
  | f + 1, n, i, a, ps, x, r, h => by
    rw [need]
    by_cases hs : sib i < n
    · rw [if_pos hs]
      match ps, h with
      | [], h => rw [climb_stop hs] at h; cases h
      | p :: q, h =>
        rw [climb_take hs] at h
        have := climb_need f _ _ _ _ _ _ h; rw [List.length_cons, this]; omega
    · rw [if_neg hs]
      rw [climb_skip hs] at h
      have := climb_need f _ _ _ _ _ _ h; omega
/-- COMPLETENESS, from any level on. -/
theorem climb_own : ∀ (f : Nat) (L : List T) (i : Nat), i < L.length → climb f L.length i (L.getD i []) (pathTo L i f) = some ((ups L f).getD (i / 2 ^ f) [], [])
  | 0, L, i, _ => by simp [climb, pathTo, ups]
  | f + 1, L, i, h => by
    have ih := climb_own f (up L) (i / 2) (by rw [up_length]; omega)
    rw [up_length, up_getD L i h] at ih
    rw [pathTo_succ, ups_succ, Nat.pow_succ, Nat.mul_comm, ← Nat.div_div_eq_div_mul]
    unfold beside
    by_cases hs : sib i < L.length
    · rw [if_pos hs] at ih ⊢
      rw [List.singleton_append, climb_take hs]
      exact ih
    · rw [if_neg hs] at ih ⊢
      rw [List.nil_append, climb_skip hs]
      exact ih
theorem small_enough {n : Nat} (h : n ≤ 2 ^ 64) : sz n hi ≤ 1 := sz_le n 0 64 h
theorem zero_of_small {i n : Nat} (h : i < n) (hn : n ≤ 2 ^ 64) : i / 2 ^ hi = 0 := Nat.div_eq_of_lt (by unfold hi; omega)
theorem leaves_getD (l : List T) (i : Nat) (h : i < l.length) : (leaves l).getD i [] = leafD (l.getD i []) := by
  unfold leaves
  simp [List.getD_eq_getElem?_getD, h]
theorem leaves_length (l : List T) : (leaves l).length = l.length := by unfold leaves; simp
/-- COMPLETENESS. -/
theorem complete {l : List T} {i : Nat} (h : i < l.length) (hn : l.length ≤ 2 ^ 64) : checkN (root l) l.length i (l.getD i []) (path l i) = true := by
  have hL : i < (leaves l).length := by rw [leaves_length]; exact h
  have := climb_own hi (leaves l) i hL
  rw [leaves_length, leaves_getD l i h, zero_of_small h hn] at this
  unfold checkN path
  rw [this, root, if_neg (by intro e; subst e; simp at h)]
  simp [top]
theorem path_need {l : List T} {i : Nat} (h : i < l.length) (hn : l.length ≤ 2 ^ 64) : (path l i).length = need hi l.length i := by
  have := complete h hn
  unfold checkN at this
  rw [beq_iff_eq] at this
  have := climb_need _ _ _ _ _ _ _ this
  simpa using this
/-- REFUSALS. -/
theorem refuse {r t : T} {n i : Nat} {ps : List T} (h : ps.length ≠ need hi n i) : checkN r n i t ps = false := by
  cases e : checkN r n i t ps
  · rfl
  · unfold checkN at e
    rw [beq_iff_eq] at e
    have := climb_need _ _ _ _ _ _ _ e
    simp at this; exact absurd this h
theorem check_nat {r t : T} {n i : Nat} {ps : List T} (h : i < n) : check r n i t ps = checkN r n i t ps := by
  unfold check; simp; omega

/-! ### Where two lists with one digest are found -/
def collide (a b : List T) : Bool := !(a == b) && (listSum a == listSum b)
def oneOf (i : Nat) (a p : T) : List T := if i % 2 = 1 then [sNode, p, a] else [sNode, a, p]
def twoOf (L : List T) (i : Nat) : List T := if i % 2 = 1 then [sNode, L.getD (i - 1) [], L.getD i []] else [sNode, L.getD i [], L.getD (i + 1) []]
theorem oneOf_sum (i : Nat) (a p : T) : listSum (oneOf i a p) = join i a p := by
  unfold oneOf join
  by_cases h : i % 2 = 1
  · rw [if_pos h, if_neg (by omega)]; rfl
  · rw [if_neg h, if_pos (by omega)]; rfl
theorem twoOf_eq (L : List T) (i : Nat) : twoOf L i = oneOf i (L.getD i []) (L.getD (sib i) []) := by
  unfold twoOf oneOf sib
  by_cases h : i % 2 = 1
  · rw [if_pos h, if_pos h, if_neg (by omega)]
  · rw [if_neg h, if_neg h, if_pos (by omega)]
theorem oneOf_inj {i : Nat} {a p b q : T} (h : oneOf i a p = oneOf i b q) : a = b ∧ p = q := by
  unfold oneOf at h
  split at h <;> simp at h
  · exact ⟨h.2, h.1⟩
  · exact h
def foundFrom : Nat → List T → Nat → T → List T → Bool
  | 0, _, _, _, _ => false
  | f + 1, L, i, a, ps =>
    if L.length ≤ 1 then false
    else if sib i < L.length then
      (match ps with
       | [] => false
       | p :: r => if collide (oneOf i a p) (twoOf L i) then true else foundFrom f (up L) (i / 2) (join i a p) r)
    else foundFrom f (up L) (i / 2) a ps
theorem foundFrom_one {f i : Nat} {L : List T} {a : T} {ps : List T} (h : L.length ≤ 1) : foundFrom (f + 1) L i a ps = false := by cases ps <;> simp [foundFrom, h]
theorem foundFrom_take {f i : Nat} {L : List T} {a p : T} {r : List T} (h1 : ¬ L.length ≤ 1) (h : sib i < L.length) :
    foundFrom (f + 1) L i a (p :: r) = (collide (oneOf i a p) (twoOf L i) || foundFrom f (up L) (i / 2) (join i a p) r) := by
  cases hc : collide (oneOf i a p) (twoOf L i) <;> simp [foundFrom, h1, h, hc]
theorem foundFrom_stop {f i : Nat} {L : List T} {a : T} (h1 : ¬ L.length ≤ 1) (h : sib i < L.length) : foundFrom (f + 1) L i a [] = false := by simp [foundFrom, h1, h]
theorem foundFrom_skip {f i : Nat} {L : List T} {a : T} {ps : List T} (h1 : ¬ L.length ≤ 1) (h : ¬ sib i < L.length) : foundFrom (f + 1) L i a ps = foundFrom f (up L) (i / 2) a ps := by
  cases ps <;> simp [foundFrom, h1, h]
def found (l : List T) (i : Nat) (t : T) (ps : List T) : Bool := collide [sLeaf, t] [sLeaf, l.getD i []] || foundFrom hi (leaves l) i (leafD t) ps
theorem climb_one : ∀ (f : Nat) (a : T) (ps : List T), climb f 1 0 a ps = some (a, ps)
  | 0, _, _ => rfl
  | f + 1, a, ps => by rw [climb_skip (by decide)]; exact climb_one f a ps
theorem collide_of {a b : List T} (hne : a ≠ b) (h : listSum a = listSum b) : collide a b = true := by unfold collide; simp [hne, h]
/-- SOUNDNESS, from any level on. -/
theorem sound_from : ∀ (f : Nat) (L : List T) (i : Nat) (a : T) (ps : List T), i < L.length → (ups L f).length ≤ 1 → climb f L.length i a ps = some ((ups L f).getD 0 [], []) →
    (a = L.getD i [] ∧ ps = pathTo L i f) ∨ foundFrom f L i a ps = true
  | 0, L, i, a, ps, h, hs, hc => by
    simp only [ups] at hs hc
    obtain rfl : i = 0 := by omega
    simp [climb] at hc
    exact .inl ⟨by simpa using hc.1, by simpa [pathTo] using hc.2⟩
  | f + 1, L, i, a, ps, h, hs, hc => by
    by_cases h1 : L.length ≤ 1
    · have hn : L.length = 1 := by omega
      obtain rfl : i = 0 := by omega
      have hu : ups L (f + 1) = L := by
        have := ups_small (l := L) (k := 0) h1 (f + 1)
        rwa [Nat.zero_add] at this
      rw [hn, climb_one, hu] at hc
      have hp : pathTo L 0 (f + 1) = [] := by
        have := pathTo_small (L := L) (i := 0) (k := 0) h h1 (f + 1)
        rwa [Nat.zero_add] at this
      simp at hc
      exact .inl ⟨by simpa using hc.1, by rw [hp]; exact hc.2⟩
    · have hul : (up L).length = (L.length + 1) / 2 := up_length L
      have hil : i / 2 < (up L).length := by omega
      rw [ups_succ] at hs hc
      rw [pathTo_succ]
      have hug := up_getD L i h
      unfold beside
      by_cases hb : sib i < L.length
      · rw [if_pos hb] at hug
        rw [if_pos hb]
        match ps, hc with
        | [], hc => rw [climb_stop hb] at hc; cases hc
        | p :: r, hc =>
          rw [climb_take hb] at hc
          rw [foundFrom_take h1 hb]
          have hc' : climb f (up L).length (i / 2) (join i a p) r = some ((ups (up L) f).getD 0 [], []) := by rw [hul]; exact hc
          by_cases hcol : collide (oneOf i a p) (twoOf L i) = true
          · right; simp [hcol]
          · rcases sound_from f (up L) (i / 2) (join i a p) r hil hs hc' with ⟨e1, e2⟩ | hf
            · left
              rw [hug] at e1
              by_cases e : oneOf i a p = twoOf L i
              · rw [twoOf_eq] at e
                obtain ⟨h2, h3⟩ := oneOf_inj e
                exact ⟨h2, by rw [e2, h3]; rfl⟩
              · exact absurd (collide_of e (by rw [twoOf_eq, oneOf_sum, oneOf_sum, e1])) hcol
            · right; simp [hcol, hf]
      · rw [if_neg hb] at hug
        rw [climb_skip hb] at hc
        rw [if_neg hb, foundFrom_skip h1 hb]
        have hc' : climb f (up L).length (i / 2) a ps = some ((ups (up L) f).getD 0 [], []) := by rw [hul]; exact hc
        rcases sound_from f (up L) (i / 2) a ps hil hs hc' with ⟨e1, e2⟩ | hf
        · exact .inl ⟨by rw [e1, hug], by rw [e2]; rfl⟩
        · exact .inr hf
/-- SOUNDNESS. -/
theorem sound {l : List T} {i : Nat} {t : T} {ps : List T} (h : i < l.length) (hn : l.length ≤ 2 ^ 64) (hc : checkN (root l) l.length i t ps = true) :
    (t = l.getD i [] ∧ ps = path l i) ∨ found l i t ps = true := by
  unfold checkN at hc
  rw [beq_iff_eq, root, if_neg (by intro e; subst e; simp at h)] at hc
  have hL : i < (leaves l).length := by rw [leaves_length]; exact h
  rcases sound_from hi (leaves l) i (leafD t) ps hL (by rw [ups_length, leaves_length]; exact small_enough hn) (by rw [leaves_length]; exact hc) with ⟨h1, h2⟩ | h1
  · rw [leaves_getD l i h] at h1
    by_cases e : t = l.getD i []
    · exact .inl ⟨e, h2⟩
    · right
      unfold found
      rw [collide_of (by simpa using e) h1]; rfl
  · right; unfold found; rw [h1, Bool.or_true]
/-- LISTS. -/
theorem differs {l m : List T} (hl : l.length = m.length) (hn : l.length ≤ 2 ^ 64) (hr : root l = root m) {i : Nat} (h : i < l.length) :
    l.getD i [] = m.getD i [] ∨ found l i (m.getD i []) (path m i) = true := by
  have hc := complete (l := m) (i := i) (by omega) (by omega)
  rw [← hr, ← hl] at hc
  rcases sound h hn hc with ⟨h1, _⟩ | h1
  · exact .inl h1.symm
  · exact .inr h1

/-! ### Parts -/
theorem up_append : ∀ (a b : List T), a.length % 2 = 0 → up (a ++ b) = up a ++ up b
  | [], b, _ => rfl
  | [x], b, h => by simp at h
  | x :: y :: r, b, h => by
    have := up_append r b (by simp only [List.length_cons] at h; omega)
    simp only [List.cons_append, up, this]
theorem ups_append {a b : List T} : ∀ {k e : Nat}, a.length = 2 ^ (k + e) → ups (a ++ b) k = ups a k ++ ups b k ∧ (ups a k).length = 2 ^ e
  | 0, e, h => ⟨rfl, by simpa [ups] using h⟩
  | k + 1, e, h => by
    have ih := ups_append (a := a) (b := b) (k := k) (e := e + 1) (by rw [h]; congr 1; omega)
    rw [Nat.pow_succ] at ih
    refine ⟨?_, by rw [ups, up_length]; omega⟩
    rw [ups, ih.1, up_append _ _ (by omega)]; rfl
theorem one_is {L : List T} (h : L.length = 1) : L = [L.getD 0 []] := by
  match L, h with
  | [_], _ => rfl
theorem parts {l : List T} {e : Nat} (he : e ≤ 60) (h1 : 2 ^ e < l.length) (h2 : l.length ≤ 2 * 2 ^ e) : root l = nodeD (root (l.take (2 ^ e))) (root (l.drop (2 ^ e))) := by
  obtain ⟨a, ha⟩ : ∃ a, l.take (2 ^ e) = a := ⟨_, rfl⟩
  obtain ⟨b, hb⟩ : ∃ b, l.drop (2 ^ e) = b := ⟨_, rfl⟩
  have hab : l = a ++ b := by rw [← ha, ← hb, List.take_append_drop]
  have hal : a.length = 2 ^ e := by rw [← ha, List.length_take]; omega
  have hbl : b.length ≤ 2 ^ e := by rw [← hb, List.length_drop]; omega
  have hb1 : 1 ≤ b.length := by rw [← hb, List.length_drop]; omega
  have hpos : 1 ≤ 2 ^ e := Nat.one_le_two_pow
  rw [ha, hb]
  have hup := ups_append (a := leaves a) (b := leaves b) (k := e) (e := 0) (by rw [leaves_length, hal]; rfl)
  have hla : (lvl a e).length = 1 := hup.2
  have hlb : (lvl b e).length = 1 := by
    rw [lvl_length]
    have h3 := sz_le b.length 0 e hbl
    have h4 := sz_pos hb1 e
    omega
  have hra := root_at (l := a) (by intro h; subst h; simp at hal; omega) (k := e) (by unfold hi; omega) (by omega)
  have hrb := root_at (l := b) (by intro h; subst h; simp at hb1) (k := e) (by unfold hi; omega) (by omega)
  have hl : lvl l e = [root a, root b] := by
    have e1 : lvl l e = lvl a e ++ lvl b e := by
      unfold lvl; rw [← hup.1, hab]; unfold leaves; rw [List.map_append]
    rw [e1, one_is hla, one_is hlb, ← hra, ← hrb]; rfl
  have hl1 : lvl l (e + 1) = [nodeD (root a) (root b)] := by
    show up (lvl l e) = _
    rw [hl]; rfl
  have := root_at (l := l) (by intro h; subst h; simp at h1) (k := e + 1) (by unfold hi; omega) (by rw [hl1]; simp)
  rw [this, hl1]; rfl

/-! ### Lengths -/
theorem pathTo_length (L : List T) (i : Nat) : ∀ k, (pathTo L i k).length ≤ k ∧ ((pathTo L i k).length = k ↔ ∀ j, j < k → sib (i / 2 ^ j) < (ups L j).length)
  | 0 => ⟨Nat.le_refl _, by simp [pathTo]⟩
  | k + 1 => by
    obtain ⟨h1, h2⟩ := pathTo_length L i k
    rw [pathTo, List.length_append]
    unfold beside
    by_cases hs : sib (i / 2 ^ k) < (ups L k).length
    · rw [if_pos hs]
      refine ⟨by simp; omega, ⟨fun h j hj => ?_, fun h => ?_⟩⟩
      · by_cases e : j = k
        · rw [e]; exact hs
        · exact h2.1 (by simpa using h) j (by omega)
      · have := h2.2 fun j hj => h j (by omega)
        simp [this]
    · rw [if_neg hs]
      refine ⟨by simp; omega, ⟨fun h => ?_, fun h => absurd (h k (by omega)) hs⟩⟩
      simp at h; omega
theorem listSum_length (l : List T) : (listSum l).length = 16 := sum_length _
theorem nodeD_length (a b : T) : (nodeD a b).length = 16 := sum_length _
theorem leafD_length (t : T) : (leafD t).length = 16 := sum_length _
theorem up_16 : ∀ (l : List T), (∀ t ∈ l, t.length = 16) → ∀ t ∈ up l, t.length = 16
  | [], _, t, h => by simp [up] at h
  | [a], ha, t, h => ha t (by simpa [up] using h)
  | a :: b :: r, ha, t, h => by
    rw [up] at h
    rcases List.mem_cons.1 h with rfl | h
    · exact nodeD_length _ _
    · exact up_16 r (fun t ht => ha t (by simp [ht])) t h
theorem ups_16 {L : List T} (h : ∀ t ∈ L, t.length = 16) : ∀ k, ∀ t ∈ ups L k, t.length = 16
  | 0 => h
  | k + 1 => up_16 _ (ups_16 h k)
theorem leaves_16 (l : List T) : ∀ t ∈ leaves l, t.length = 16 := fun t ht => by
  unfold leaves at ht
  obtain ⟨x, _, rfl⟩ := List.mem_map.1 ht
  exact leafD_length _
theorem lvl_16 (l : List T) (k : Nat) : ∀ t ∈ lvl l k, t.length = 16 := ups_16 (leaves_16 l) k
theorem getD_mem {L : List T} {i : Nat} (h : i < L.length) : L.getD i [] ∈ L := by
  rw [List.getD_eq_getElem?_getD, List.getElem?_eq_getElem h]; exact List.getElem_mem h
theorem pathTo_16 {L : List T} (hL : ∀ t ∈ L, t.length = 16) (i : Nat) : ∀ k, ∀ t ∈ pathTo L i k, t.length = 16
  | 0, t, h => by simp [pathTo] at h
  | k + 1, t, h => by
    rw [pathTo] at h
    rcases List.mem_append.1 h with h | h
    · exact pathTo_16 hL i k t h
    · unfold beside at h
      split at h
      · rename_i hs
        simp only [List.mem_singleton] at h
        rw [h]; exact ups_16 hL k _ (getD_mem hs)
      · simp at h
theorem path_16 (l : List T) (i : Nat) : ∀ t ∈ path l i, t.length = 16 := pathTo_16 (leaves_16 l) i hi
theorem path_length_le (l : List T) (i : Nat) : (path l i).length ≤ 64 := (pathTo_length (leaves l) i hi).1
theorem root_length (l : List T) (hn : l.length ≤ 2 ^ 64) : (root l).length = 16 := by
  unfold root
  split
  · exact listSum_length _
  · rename_i hne
    have hpos : 1 ≤ l.length := by
      cases l with
      | nil => exact absurd rfl hne
      | cons a r => simp
    unfold top
    refine ups_16 (leaves_16 l) hi _ (getD_mem ?_)
    rw [ups_length, leaves_length]
    have := sz_pos hpos hi; omega
end Foyer.Tree
