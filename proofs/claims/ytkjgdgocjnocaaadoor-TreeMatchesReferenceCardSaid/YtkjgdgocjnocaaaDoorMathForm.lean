/-
  The plain mathematics of what a digest is, of the number that it stands for, and of joined texts. No program is spoken of here.
-/
import Derived.Test.YtkjgdgocjnocaaaDoorMathBlocks
import Derived.Lib.Atoi
import Derived.Lib.ItoaNum
namespace Foyer.Digest
open Go.Lib

/-! ### What a digest is -/
def isHex (c : UInt8) : Bool := (decide (48 ≤ c.toNat) && decide (c.toNat ≤ 57)) || (decide (97 ≤ c.toNat) && decide (c.toNat ≤ 102))
def isDigest (t : List UInt8) : Bool := decide (t.length = 16) && t.all isHex
theorem hexD_isHex {d : Nat} (h : d < 16) : isHex (hexD d) = true := by
  unfold isHex; rw [hexD_toNat h]; split <;> simp <;> omega
theorem hexN_all : ∀ k s, (hexN k s).all isHex = true
  | 0, _ => rfl
  | k + 1, s => by
    unfold hexN; rw [List.all_append, hexN_all k, Bool.true_and]
    simp [hexD_isHex (Nat.mod_lt s (by decide : 0 < 16))]
theorem sum_isDigest (t : List UInt8) : isDigest (sum t) = true := by
  unfold isDigest; rw [sum_length]; unfold sum; rw [hexN_all]; rfl

/-! ### The chain -/
def chain (t : List UInt8) : Nat → List UInt8
  | 0 => t
  | n + 1 => sum (chain t n)
theorem chain_add (t : List UInt8) (a : Nat) : ∀ b, chain (chain t a) b = chain t (a + b)
  | 0 => rfl
  | b + 1 => by rw [chain, chain_add t a b]; rfl
theorem chain_isDigest (t : List UInt8) {n : Nat} (h : 1 ≤ n) : isDigest (chain t n) = true := by
  obtain ⟨m, rfl⟩ : ∃ m, n = m + 1 := ⟨n - 1, by omega⟩
  exact sum_isDigest _
theorem chain_length (t : List UInt8) {n : Nat} (h : 1 ≤ n) : (chain t n).length = 16 := by
  obtain ⟨m, rfl⟩ : ∃ m, n = m + 1 := ⟨n - 1, by omega⟩
  exact sum_length _
theorem chain_length_le (t : List UInt8) (n : Nat) : (chain t n).length ≤ t.length + 16 := by
  cases n with
  | zero => show t.length ≤ _; omega
  | succ m => rw [chain_length t (by omega)]; omega

/-! ### The number -/
def unhex (c : UInt8) : Nat := if c.toNat ≤ 57 then c.toNat - 48 else c.toNat - 87
theorem unhex_lt {c : UInt8} (h : isHex c = true) : unhex c < 16 := by
  unfold isHex at h; unfold unhex; simp at h; split <;> omega
def numFrom : Nat → List UInt8 → Nat
  | a, [] => a
  | a, c :: r => numFrom (a * 16 + unhex c) r
def num (t : List UInt8) : Nat := numFrom 0 t
theorem numFrom_append (u v : List UInt8) : ∀ a, numFrom a (u ++ v) = numFrom (numFrom a u) v := by
  induction u with
  | nil => intro a; rfl
  | cons c r ih => intro a; exact ih _
theorem num_snoc (u : List UInt8) (c : UInt8) : num (u ++ [c]) = num u * 16 + unhex c := by unfold num; rw [numFrom_append]; rfl
theorem num_lt : ∀ (k : Nat) (u : List UInt8), u.length = k → u.all isHex = true → num u < 16 ^ k
  | 0, u, hu, _ => by
    have : u = [] := List.length_eq_zero_iff.1 hu
    subst this; decide
  | k + 1, u, hu, ha => by
    have hne : u ≠ [] := by intro e; subst e; simp at hu
    have e := List.dropLast_concat_getLast hne
    rw [← e, List.all_append] at ha
    simp only [Bool.and_eq_true, List.all_cons, List.all_nil] at ha
    have h1 := num_lt k u.dropLast (by rw [List.length_dropLast]; omega) ha.1
    have h2 := unhex_lt ha.2.1
    rw [← e, num_snoc, Nat.pow_succ]; omega
/-- What a digest stands for below n. -/
def below (t : List UInt8) (n : Int) : Int := if n < 1 then 0 else if isDigest t then ((num (t.take 15) : Nat) : Int) % n else 0
theorem take_hex {t : List UInt8} (h : isDigest t = true) : (t.take 15).all isHex = true ∧ (t.take 15).length = 15 := by
  unfold isDigest at h
  simp only [Bool.and_eq_true, decide_eq_true_eq] at h
  refine ⟨List.all_eq_true.2 fun x hx => List.all_eq_true.1 h.2 x (List.mem_of_mem_take hx), ?_⟩
  rw [List.length_take]; omega
theorem num_take_lt {t : List UInt8} (h : isDigest t = true) : num (t.take 15) < 1152921504606846976 :=
  num_lt 15 _ (take_hex h).2 (take_hex h).1
theorem below_range {t : List UInt8} {n : Int} (h : 1 ≤ n) : 0 ≤ below t n ∧ below t n < n := by
  unfold below; rw [if_neg (by omega)]; split
  · exact ⟨Int.emod_nonneg _ (by omega), Int.emod_lt_of_pos _ (by omega)⟩
  · omega
theorem below_mul {t : List UInt8} (ht : isDigest t = true) {n f : Int} (h : 1 ≤ n) (hf : 1 ≤ f) : below t (n * f) % n = below t n := by
  have : 1 ≤ n * f := by
    have := Int.mul_le_mul h hf (by omega) (by omega)
    omega
  have e1 : (n * f < 1) = False := eq_false (by omega)
  have e2 : (n < 1) = False := eq_false (by omega)
  simp only [below, e1, e2, if_false, ht, if_true]
  exact Int.emod_emod_of_dvd _ (Int.dvd_mul_right _ _)
/-- The last k of the digits are the remainder after 16 to the k. -/
theorem num_mod : ∀ (k : Nat) (u v : List UInt8), v.length = k → v.all isHex = true → num (u ++ v) % 16 ^ k = num v := by
  intro k
  induction k with
  | zero => intro u v hv _; have : v = [] := List.length_eq_zero_iff.1 hv
            subst this; rw [Nat.pow_zero, Nat.mod_one]; rfl
  | succ k ih =>
    intro u v hv ha
    have hne : v ≠ [] := by intro e; subst e; simp at hv
    have e := List.dropLast_concat_getLast hne
    have hl : v.dropLast.length = k := by rw [List.length_dropLast]; omega
    rw [← e, List.all_append] at ha
    simp only [Bool.and_eq_true, List.all_cons, List.all_nil] at ha
    have h2 := unhex_lt ha.2.1
    have h1 := ih u v.dropLast hl ha.1
    rw [← e, ← List.append_assoc, num_snoc, num_snoc, Nat.pow_succ, Nat.mul_comm (16 ^ k) 16, Nat.mod_mul, ← h1]
    have e1 : (num (u ++ v.dropLast) * 16 + unhex (v.getLast hne)) / 16 = num (u ++ v.dropLast) := by omega
    have e2 : (num (u ++ v.dropLast) * 16 + unhex (v.getLast hne)) % 16 = unhex (v.getLast hne) := by omega
    rw [e1, e2]; omega

/-! ### Joined texts -/
def item (t : List UInt8) : List UInt8 := decDigits t.length ++ 58 :: t
def joined : List (List UInt8) → List UInt8
  | [] => []
  | t :: r => item t ++ joined r
theorem joined_append (a b : List (List UInt8)) : joined (a ++ b) = joined a ++ joined b := by
  induction a with
  | nil => rfl
  | cons t r ih => rw [List.cons_append, joined, joined, ih, List.append_assoc]
theorem joined_snoc (a : List (List UInt8)) (t : List UInt8) : joined (a ++ [t]) = joined a ++ item t := by
  rw [joined_append, joined, joined, List.append_nil]
theorem itoa_nat (u : Nat) : itoa (u : Int) = decDigits u := by unfold itoa; rw [if_neg (by omega)]; simp
theorem dec_small {u : Nat} (h : u < 10) : decDigits u = [UInt8.ofNat (48 + u)] := by rw [decDigits, dif_pos h]
theorem dec_big {u : Nat} (h : ¬ u < 10) : decDigits u = decDigits (u / 10) ++ [UInt8.ofNat (48 + u % 10)] := by rw [decDigits, dif_neg h]
theorem dec_bytes (u : Nat) : ∀ b ∈ decDigits u, 48 ≤ b.toNat ∧ b.toNat ≤ 57 := by
  induction u using Nat.strongRecOn with
  | _ u ih =>
    by_cases h : u < 10
    · rw [dec_small h]; intro b hb; simp only [List.mem_singleton] at hb; subst hb
      have e : (UInt8.ofNat (48 + u)).toNat = 48 + u := by simp; omega
      omega
    · rw [dec_big h]; intro b hb
      rcases List.mem_append.1 hb with hb | hb
      · exact ih _ (by omega) b hb
      · simp only [List.mem_singleton] at hb; subst hb
        have e : (UInt8.ofNat (48 + u % 10)).toNat = 48 + u % 10 := by simp; omega
        omega
theorem dec_length (u : Nat) : (decDigits u).length = nDigits u := by
  induction u using Nat.strongRecOn with
  | _ u ih =>
    by_cases h : u < 10
    · rw [dec_small h, nDigits_small h]; rfl
    · rw [dec_big h, nDigits_big h, List.length_append, ih _ (by omega)]; rfl
theorem nDigits_le : ∀ (k u : Nat), u < 10 ^ (k + 1) → nDigits u ≤ k + 1
  | 0, u, h => by rw [nDigits_small (by simpa using h)]; omega
  | k + 1, u, h => by
    by_cases h' : u < 10
    · rw [nDigits_small h']; omega
    · rw [nDigits_big h']
      have := nDigits_le k (u / 10) (by rw [Nat.pow_succ] at h; omega)
      omega
theorem dig_inj {a b : Nat} (ha : a < 10) (hb : b < 10) (h : UInt8.ofNat (48 + a) = UInt8.ofNat (48 + b)) : a = b := by
  have := congrArg UInt8.toNat h
  simp at this; omega
theorem dec_ne_nil (u : Nat) : decDigits u ≠ [] := by
  by_cases h : u < 10
  · rw [dec_small h]; simp
  · rw [dec_big h]; simp
theorem dec_inj : ∀ {u v : Nat}, decDigits u = decDigits v → u = v := by
  intro u
  induction u using Nat.strongRecOn with
  | _ u ih =>
    intro v h
    by_cases hu : u < 10 <;> by_cases hv : v < 10
    · rw [dec_small hu, dec_small hv] at h
      exact dig_inj hu hv (by simpa using h)
    · rw [dec_small hu, dec_big hv] at h
      exact absurd (append_one_inj (a := []) h).1.symm (dec_ne_nil _)
    · rw [dec_big hu, dec_small hv] at h
      exact absurd (append_one_inj (b := []) h).1 (dec_ne_nil _)
    · rw [dec_big hu, dec_big hv] at h
      obtain ⟨h1, h2⟩ := append_one_inj h
      have e1 := ih (u / 10) (by omega) h1
      have e2 := dig_inj (Nat.mod_lt _ (by decide)) (Nat.mod_lt _ (by decide)) h2
      omega
/-- What stands before the first colon. -/
theorem before_colon : ∀ {a b : List UInt8} {r s : List UInt8}, (58 : UInt8) ∉ a → (58 : UInt8) ∉ b → a ++ 58 :: r = b ++ 58 :: s → a = b ∧ r = s
  | [], [], r, s, _, _, h => ⟨rfl, by simpa using h⟩
  | [], y :: b, r, s, _, hb, h => by
    have e : (58 : UInt8) = y := by simpa using (List.cons.inj h).1
    exact absurd (by rw [e]; simp) hb
  | x :: a, [], r, s, ha, _, h => by
    have e : x = (58 : UInt8) := by simpa using (List.cons.inj h).1
    exact absurd (by rw [← e]; simp) ha
  | x :: a, y :: b, r, s, ha, hb, h => by
    have h1 := List.cons.inj h
    have := before_colon (a := a) (b := b) (fun m => ha (List.mem_cons_of_mem _ m)) (fun m => hb (List.mem_cons_of_mem _ m)) h1.2
    exact ⟨by rw [h1.1, this.1], this.2⟩
theorem colon_not (u : Nat) : (58 : UInt8) ∉ decDigits u := by
  intro h; have := dec_bytes u _ h; simp at this
theorem item_ne (t r : List UInt8) : item t ++ r ≠ [] := by
  unfold item
  intro h
  have := congrArg List.length h
  simp at this
/-- DIFFERENT LISTS have different joined texts. -/
theorem joined_inj : ∀ {l m : List (List UInt8)}, joined l = joined m → l = m
  | [], [], _ => rfl
  | [], t :: r, h => absurd h.symm (item_ne t (joined r))
  | t :: r, [], h => absurd h (item_ne t (joined r))
  | t :: r, u :: s, h => by
    have h' : decDigits t.length ++ 58 :: (t ++ joined r) = decDigits u.length ++ 58 :: (u ++ joined s) := by
      have := h; simp only [joined, item, List.append_assoc, List.cons_append] at this; exact this
    obtain ⟨h1, h2⟩ := before_colon (colon_not _) (colon_not _) h'
    have hl := dec_inj h1
    obtain ⟨h3, h4⟩ := List.append_inj h2 hl
    rw [h3, joined_inj h4]
/-- The digest of a list. -/
def listSum (l : List (List UInt8)) : List UInt8 := sum (joined l)
theorem one_list {a b : List UInt8} (hl : a.length = b.length) (h9 : a.length ≤ 9) (h6 : ∀ i, i < 6 → a.getD i 0 = b.getD i 0) : listSum [a] = listSum [b] ↔ a = b := by
  have hd : (decDigits a.length).length = 1 := by rw [dec_small (by omega)]; rfl
  have e : ∀ t : List UInt8, joined [t] = item t := fun t => by simp [joined]
  unfold listSum
  rw [e, e]
  have hil : (item a).length = (item b).length := by unfold item; simp [hl]
  have hg : ∀ (t : List UInt8), t.length = a.length → ∀ i, (item t).getD (i + 2) 0 = t.getD i 0 := fun t ht i => by
    unfold item; rw [ht]
    rw [List.getD_eq_getElem?_getD, List.getElem?_append_right (by omega), hd]
    rw [show i + 2 - 1 = i + 1 by omega, List.getElem?_cons_succ, List.getD_eq_getElem?_getD]
  have h01 : ∀ i, i < 2 → (item a).getD i 0 = (item b).getD i 0 := fun i hi => by
    unfold item; rw [← hl]
    simp only [List.getD_eq_getElem?_getD]
    by_cases h0 : i = 0
    · subst h0; rw [List.getElem?_append_left (by omega), List.getElem?_append_left (by omega)]
    · have : i = 1 := by omega
      subst this
      rw [List.getElem?_append_right (by omega), List.getElem?_append_right (by omega), hd]; rfl
  have hlen : (item a).length ≤ 11 := by unfold item; rw [List.length_append, hd]; simp; omega
  have hs := one_block_iff hil 1 (fun i hi => by
    rcases hi with hi | hi
    · by_cases h2 : i < 2
      · exact h01 i h2
      · have e1 := hg a rfl (i - 2)
        have e2 := hg b hl.symm (i - 2)
        rw [show i - 2 + 2 = i by omega] at e1 e2
        rw [e1, e2, h6 _ (by omega)]
    · rw [List.getD_eq_getElem?_getD, List.getD_eq_getElem?_getD, List.getElem?_eq_none (by omega), List.getElem?_eq_none (by omega)])
  rw [hs]
  refine ⟨fun h => ?_, fun h => by rw [h]⟩
  unfold item at h; rw [← hl] at h
  have := List.append_cancel_left h
  simpa using this
end Foyer.Digest
