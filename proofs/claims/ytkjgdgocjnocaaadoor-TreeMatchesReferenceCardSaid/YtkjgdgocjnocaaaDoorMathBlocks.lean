/-
  The plain mathematics of the digest of a text: its blocks, its states, its sixteen digits; which texts have the same one. No program is spoken of here.
-/
import Derived.Test.YtkjgdgocjnocaaaDoorMathMix
namespace Foyer.Digest

/-- The byte at a place of a text behind which a byte 1 and bytes 0 stand. -/
def padded (t : List UInt8) (i : Nat) : Nat := if i < t.length then (t.getD i 0).toNat else if i = t.length then 1 else 0
/-- The first k bytes of a block, the first one the least significant. -/
def bytesN (f : Nat → Nat) : Nat → Nat
  | 0 => 0
  | k + 1 => bytesN f k + f k * 256 ^ k
/-- The block that begins at a place. -/
def block (t : List UInt8) (first : Nat) : Nat := bytesN (fun k => padded t (first + k)) 8
/-- The state after n blocks. -/
def state (t : List UInt8) : Nat → Nat
  | 0 => 7046029254386353131
  | n + 1 => mix (state t n ^^^ block t (8 * n))
/-- How many blocks a text has. -/
def count (t : List UInt8) : Nat := t.length / 8 + 1
/-- A hexadecimal digit. -/
def hexD (d : Nat) : UInt8 := UInt8.ofNat (if d < 10 then 48 + d else 87 + d)
/-- The last k hexadecimal digits of a number. -/
def hexN : Nat → Nat → List UInt8
  | 0, _ => []
  | k + 1, s => hexN k (s / 16) ++ [hexD (s % 16)]
/-- The digest of a text. -/
def sum (t : List UInt8) : List UInt8 := hexN 16 (state t (count t))

theorem padded_lt (t : List UInt8) (i : Nat) : padded t i < 256 := by
  unfold padded; split
  · exact (t.getD i 0).toNat_lt
  · split <;> omega
theorem bytesN_lt {f : Nat → Nat} (hf : ∀ i, f i < 256) : ∀ k, bytesN f k < 256 ^ k
  | 0 => Nat.one_pos
  | k + 1 => by
    have h := bytesN_lt hf k
    have h2 : f k * 256 ^ k ≤ 255 * 256 ^ k := Nat.mul_le_mul_right _ (by have := hf k; omega)
    rw [Nat.pow_succ]; unfold bytesN; omega
theorem bytesN_inj {f g : Nat → Nat} (hf : ∀ i, f i < 256) (hg : ∀ i, g i < 256) : ∀ k, bytesN f k = bytesN g k → ∀ i, i < k → f i = g i
  | 0, _, i, hi => by omega
  | k + 1, h, i, hi => by
    have h1 := bytesN_lt hf k
    have h2 := bytesN_lt hg k
    unfold bytesN at h
    have e1 : (bytesN f k + f k * 256 ^ k) / 256 ^ k = f k := by
      rw [Nat.add_mul_div_right _ _ (Nat.pow_pos (by decide)), Nat.div_eq_of_lt h1, Nat.zero_add]
    have e2 : (bytesN g k + g k * 256 ^ k) / 256 ^ k = g k := by
      rw [Nat.add_mul_div_right _ _ (Nat.pow_pos (by decide)), Nat.div_eq_of_lt h2, Nat.zero_add]
    have ek : f k = g k := by rw [← e1, h, e2]
    rw [ek] at h
    by_cases hik : i = k
    · rw [hik]; exact ek
    · exact bytesN_inj hf hg k (by omega) i (by omega)
theorem bytesN_congr {f g : Nat → Nat} : ∀ k, (∀ i, i < k → f i = g i) → bytesN f k = bytesN g k
  | 0, _ => rfl
  | k + 1, h => by unfold bytesN; rw [bytesN_congr k (fun i hi => h i (by omega)), h k (by omega)]
theorem block_lt (t : List UInt8) (first : Nat) : block t first < big := bytesN_lt (fun _ => padded_lt _ _) 8
theorem state_lt (t : List UInt8) : ∀ n, state t n < big
  | 0 => (by decide : 7046029254386353131 < big)
  | n + 1 => mix_lt _
theorem state_step (t : List UInt8) (n : Nat) : state t (n + 1) = mix (state t n ^^^ block t (8 * n)) := rfl

/-! ### The digits -/
theorem hexN_length : ∀ k s, (hexN k s).length = k
  | 0, _ => rfl
  | k + 1, s => by unfold hexN; rw [List.length_append, hexN_length k]; rfl
theorem hexN_at : ∀ (k s j : Nat) (h : j < k), (hexN k s)[j]'(by rw [hexN_length]; exact h) = hexD (s / 16 ^ (k - 1 - j) % 16)
  | k + 1, s, j, h => by
    by_cases e : j = k
    · subst e
      have : (hexN (j + 1) s)[j]'(by rw [hexN_length]; exact h) = hexD (s % 16) := by
        simp only [hexN]
        rw [List.getElem_append_right (by rw [hexN_length]; omega)]
        simp [hexN_length]
      rw [this, show j + 1 - 1 - j = 0 by omega, Nat.pow_zero, Nat.div_one]
    · have hj : j < k := by omega
      have : (hexN (k + 1) s)[j]'(by rw [hexN_length]; exact h) = (hexN k (s / 16))[j]'(by rw [hexN_length]; exact hj) := by
        simp only [hexN]
        rw [List.getElem_append_left (by rw [hexN_length]; exact hj)]
      rw [this, hexN_at k (s / 16) j hj, Nat.div_div_eq_div_mul, show k + 1 - 1 - j = (k - 1 - j) + 1 by omega, Nat.pow_succ, Nat.mul_comm]
theorem hexD_toNat {d : Nat} (h : d < 16) : (hexD d).toNat = if d < 10 then 48 + d else 87 + d := by
  unfold hexD; simp; split <;> omega
theorem hexD_inj {a b : Nat} (ha : a < 16) (hb : b < 16) (h : hexD a = hexD b) : a = b := by
  have := congrArg UInt8.toNat h
  rw [hexD_toNat ha, hexD_toNat hb] at this
  split at this <;> split at this <;> omega
theorem append_one_inj {α : Type} {a b : List α} {x y : α} (h : a ++ [x] = b ++ [y]) : a = b ∧ x = y := by
  have := List.append_inj' h rfl
  exact ⟨this.1, by simpa using this.2⟩
theorem hexN_inj : ∀ k {a b : Nat}, a < 16 ^ k → b < 16 ^ k → hexN k a = hexN k b → a = b
  | 0, a, b, ha, hb, _ => by simp at ha hb; omega
  | k + 1, a, b, ha, hb, h => by
    unfold hexN at h
    obtain ⟨h1, h2⟩ := append_one_inj h
    rw [Nat.pow_succ] at ha hb
    have e1 := hexN_inj k (by omega) (by omega) h1
    have e2 := hexD_inj (Nat.mod_lt _ (by decide)) (Nat.mod_lt _ (by decide)) h2
    omega
theorem sum_length (t : List UInt8) : (sum t).length = 16 := hexN_length _ _
theorem sum_state {a b : List UInt8} (h : sum a = sum b) : state a (count a) = state b (count b) :=
  hexN_inj 16 (state_lt _ _) (state_lt _ _) h

/-! ### Which texts have the same digest -/
theorem block_congr {a b : List UInt8} {first : Nat} (h : ∀ i, i < 8 → padded a (first + i) = padded b (first + i)) : block a first = block b first := bytesN_congr 8 h
theorem state_congr {a b : List UInt8} : ∀ n, (∀ k, k < n → block a (8 * k) = block b (8 * k)) → state a n = state b n
  | 0, _ => rfl
  | n + 1, h => by rw [state_step, state_step, state_congr n (fun k hk => h k (by omega)), h n (by omega)]
/-- Behind a state, the same blocks lead from different states to different ones. -/
theorem state_back {a b : List UInt8} (p : Nat) : ∀ n, p ≤ n → (∀ k, p ≤ k → k < n → block a (8 * k) = block b (8 * k)) → state a n = state b n → state a p = state b p
  | 0, hp, _, h => by
    have : p = 0 := by omega
    rw [this]; rfl
  | n + 1, hp, hb, h => by
    by_cases e : p = n + 1
    · rw [e]; exact h
    · rw [state_step, state_step, hb n (by omega) (by omega)] at h
      have hx := mix_inj (xor_lt (state_lt _ _) (block_lt _ _)) (xor_lt (state_lt _ _) (block_lt _ _)) h
      exact state_back p n (by omega) (fun k h1 h2 => hb k h1 (by omega)) (xor_cancel hx)
/-- ONE BLOCK: texts of the same length that agree outside of a block have the same digest exactly if the block is the same. -/
theorem one_block {a b : List UInt8} (hl : a.length = b.length) (p : Nat) (hout : ∀ i, (i < 8 * p ∨ 8 * p + 8 ≤ i) → a.getD i 0 = b.getD i 0) (h : sum a = sum b) : ∀ i, padded a i = padded b i := by
  have hpo : ∀ i, (i < 8 * p ∨ 8 * p + 8 ≤ i) → padded a i = padded b i := fun i hi => by
    unfold padded; rw [hl, hout i hi]
  have hs := sum_state h
  have hc : count a = count b := by unfold count; rw [hl]
  rw [← hc] at hs
  have hbk : ∀ k, k ≠ p → block a (8 * k) = block b (8 * k) := fun k hk => block_congr fun i hi => hpo _ (by omega)
  by_cases hp : p < count a
  · have h1 := state_back (p + 1) (count a) (by omega) (fun k h1 _ => hbk k (by omega)) hs
    rw [state_step, state_step, state_congr p (fun k hk => hbk k (by omega))] at h1
    have hx := mix_inj (xor_lt (state_lt _ _) (block_lt _ _)) (xor_lt (state_lt _ _) (block_lt _ _)) h1
    have hb := xor_cancel' hx
    have hi := bytesN_inj (fun _ => padded_lt _ _) (fun _ => padded_lt _ _) 8 hb
    intro i
    by_cases ho : i < 8 * p ∨ 8 * p + 8 ≤ i
    · exact hpo i ho
    · have := hi (i - 8 * p) (by omega)
      rwa [show 8 * p + (i - 8 * p) = i by omega] at this
  · intro i
    unfold count at hp
    unfold padded
    rw [hl]
    by_cases hil : i < b.length
    · rw [if_pos hil, if_pos hil, hout i (by omega)]
    · rw [if_neg hil, if_neg hil]
theorem of_padded {a b : List UInt8} (hl : a.length = b.length) (h : ∀ i, padded a i = padded b i) : a = b := by
  refine List.ext_getElem hl fun i h1 h2 => ?_
  have := h i
  unfold padded at this
  rw [if_pos h1, if_pos h2] at this
  have e := UInt8.toNat_inj.1 this
  simpa [List.getD_eq_getElem?_getD, h1, h2] using e
theorem one_block_iff {a b : List UInt8} (hl : a.length = b.length) (p : Nat) (hout : ∀ i, (i < 8 * p ∨ 8 * p + 8 ≤ i) → a.getD i 0 = b.getD i 0) : sum a = sum b ↔ a = b :=
  ⟨fun h => of_padded hl (one_block hl p hout h), fun h => by rw [h]⟩
/-- Padding tells the length, too. -/
theorem short_of_padded {a b : List UInt8} (h : ∀ i, i < 8 → padded a i = padded b i) (ha : a.length ≤ 7) (hb : b.length ≤ 7) : a.length = b.length := by
  have key : ∀ {x y : List UInt8}, (∀ i, i < 8 → padded x i = padded y i) → x.length ≤ 7 → y.length ≤ 7 → x.length ≤ y.length → x.length = y.length := by
    intro x y h hx hy hxy
    by_cases e : x.length = y.length
    · exact e
    · have h1 := h y.length (by omega)
      unfold padded at h1
      rw [if_neg (by omega), if_neg (by omega), if_neg (by omega), if_pos rfl] at h1
      omega
  rcases Nat.le_total a.length b.length with hab | hab
  · exact key h ha hb hab
  · exact (key (fun i hi => (h i hi).symm) hb ha hab).symm
/-- SHORT TEXTS: at most seven bytes. -/
theorem short_iff {a b : List UInt8} (ha : a.length ≤ 7) (hb : b.length ≤ 7) : sum a = sum b ↔ a = b := by
  refine ⟨fun h => ?_, fun h => by rw [h]⟩
  have hs := sum_state h
  have ca : count a = 0 + 1 := by unfold count; omega
  have cb : count b = 0 + 1 := by unfold count; omega
  rw [ca, cb, state_step, state_step] at hs
  have hx := mix_inj (xor_lt (state_lt _ _) (block_lt _ _)) (xor_lt (state_lt _ _) (block_lt _ _)) hs
  have hbk := xor_cancel' hx
  have hi := bytesN_inj (fun _ => padded_lt _ _) (fun _ => padded_lt _ _) 8 hbk
  simp only [Nat.mul_zero, Nat.zero_add] at hi
  have hl := short_of_padded hi ha hb
  refine of_padded hl fun i => ?_
  by_cases h8 : i < 8
  · exact hi i h8
  · unfold padded
    rw [if_neg (by omega), if_neg (by omega), if_neg (by omega), if_neg (by omega)]
end Foyer.Digest
