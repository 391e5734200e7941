/-
  The plain mathematics of one-time signatures: digits with their checksum, chains, keys; which texts have one digest if a signature is valid where it should not be. No program is spoken of here.
-/
import Derived.Test.YtimiminkeencgaaDoorMathForm
namespace Foyer.Sign
open Foyer.Digest Go.Lib

/-- The checksum of some digits. -/
def rest : List Nat → Nat
  | [] => 0
  | d :: r => (15 - d) + rest r
/-- Digits and the two of their checksum. -/
def withSum (ds : List Nat) : List Nat := ds ++ [rest ds / 16, rest ds % 16]
/-- The eighteen digits of a digest. -/
def digits (t : List UInt8) : List Nat := withSum (t.map unhex)
def startOf (s : List UInt8) (i : Nat) : List UInt8 := listSum [s, decDigits i]
def endAt (s : List UInt8) (i : Nat) : List UInt8 := chain (startOf s i) 15
def endsOf (s : List UInt8) : List (List UInt8) := (List.range 18).map (endAt s)
def pub (s : List UInt8) : List UInt8 := listSum (endsOf s)
def digitAt (m : List UInt8) (i : Nat) : Nat := (digits (sum m)).getD i 0
def sigAt (s m : List UInt8) (i : Nat) : List UInt8 := chain (startOf s i) (digitAt m i)
def sigOf (s m : List UInt8) : List (List UInt8) := (List.range 18).map (sigAt s m)
def leadAt (m : List UInt8) (l : List (List UInt8)) (i : Nat) : List UInt8 := chain (l.getD i []) (15 - digitAt m i)
def leads (m : List UInt8) (l : List (List UInt8)) : List (List UInt8) := (List.range 18).map (leadAt m l)
def verify (p m : List UInt8) (l : List (List UInt8)) : Bool := decide (l.length = 18) && l.all isDigest && (listSum (leads m l) == p)

/-! ### Digits -/
theorem rest_append (a b : List Nat) : rest (a ++ b) = rest a + rest b := by
  induction a with
  | nil => simp [rest]
  | cons d r ih => rw [List.cons_append, rest, rest, ih]; omega
theorem rest_le (a : List Nat) : rest a ≤ 15 * a.length := by
  induction a with
  | nil => simp [rest]
  | cons d r ih => rw [rest, List.length_cons]; omega
theorem sum_hex (m : List UInt8) : (sum m).all isHex = true ∧ (sum m).length = 16 := by
  have := sum_isDigest m
  unfold isDigest at this
  simp only [Bool.and_eq_true, decide_eq_true_eq] at this
  exact ⟨this.2, this.1⟩
theorem map_small (m : List UInt8) : ∀ d ∈ (sum m).map unhex, d ≤ 15 := by
  intro d hd
  obtain ⟨c, hc, rfl⟩ := List.mem_map.1 hd
  have := unhex_lt (List.all_eq_true.1 (sum_hex m).1 c hc); omega
theorem rest_sum_le (m : List UInt8) : rest ((sum m).map unhex) ≤ 240 := by
  have := rest_le ((sum m).map unhex)
  rw [List.length_map, (sum_hex m).2] at this; exact this
theorem withSum_length (ds : List Nat) : (withSum ds).length = ds.length + 2 := by
  unfold withSum; rw [List.length_append, List.length_cons, List.length_cons, List.length_nil]
theorem withSum_low (ds : List Nat) (i : Nat) (h : i < ds.length) : (withSum ds).getD i 0 = ds.getD i 0 := by
  unfold withSum
  rw [List.getD_eq_getElem?_getD, List.getD_eq_getElem?_getD, List.getElem?_append_left h]
theorem withSum_one (ds : List Nat) : (withSum ds).getD ds.length 0 = rest ds / 16 := by
  unfold withSum
  rw [List.getD_eq_getElem?_getD, List.getElem?_append_right (Nat.le_refl _), Nat.sub_self]; rfl
theorem withSum_two (ds : List Nat) : (withSum ds).getD (ds.length + 1) 0 = rest ds % 16 := by
  unfold withSum
  rw [List.getD_eq_getElem?_getD, List.getElem?_append_right (by omega), show ds.length + 1 - ds.length = 1 by omega]; rfl
theorem getD_le {ds : List Nat} {n : Nat} (h : ∀ d ∈ ds, d ≤ n) (i : Nat) : ds.getD i 0 ≤ n := by
  rw [List.getD_eq_getElem?_getD]
  by_cases hi : i < ds.length
  · rw [List.getElem?_eq_getElem hi]; exact h _ (List.getElem_mem hi)
  · rw [List.getElem?_eq_none (by omega)]; exact Nat.zero_le _
theorem withSum_le {ds : List Nat} (h : ∀ d ∈ ds, d ≤ 15) (hr : rest ds ≤ 240) (i : Nat) : (withSum ds).getD i 0 ≤ 15 := by
  by_cases h1 : i < ds.length
  · rw [withSum_low ds i h1]; exact getD_le h i
  · by_cases h2 : i = ds.length
    · rw [h2, withSum_one]; omega
    · by_cases h3 : i = ds.length + 1
      · rw [h3, withSum_two]; omega
      · rw [List.getD_eq_getElem?_getD, List.getElem?_eq_none (by rw [withSum_length]; omega)]; exact Nat.zero_le _
theorem digits_length (m : List UInt8) : (digits (sum m)).length = 18 := by
  unfold digits
  rw [withSum_length, List.length_map, (sum_hex m).2]
theorem digitAt_le (m : List UInt8) (i : Nat) : digitAt m i ≤ 15 := withSum_le (map_small m) (rest_sum_le m) i
theorem rest_lt : ∀ (a b : List Nat), a.length = b.length → (∀ d ∈ b, d ≤ 15) → (∀ i, a.getD i 0 ≤ b.getD i 0) → rest b ≤ rest a ∧ (a ≠ b → rest b < rest a)
  | [], [], _, _, _ => ⟨Nat.le_refl _, fun h => absurd rfl h⟩
  | x :: a, y :: b, hl, hb, h => by
    have ih := rest_lt a b (by simpa using hl) (fun d hd => hb d (List.mem_cons_of_mem _ hd)) (fun i => by have := h (i + 1); simpa using this)
    have h0 : x ≤ y := by have := h 0; simpa using this
    have hy := hb y (by simp)
    refine ⟨by rw [rest, rest]; omega, fun hne => ?_⟩
    rw [rest, rest]
    by_cases e : x = y
    · subst e
      have := ih.2 (fun e => hne (by rw [e])); omega
    · omega
/-- If digits differ, one of them, or of the checksum's, is less. -/
theorem some_less (a b : List Nat) (hl : a.length = b.length) (hb : ∀ d ∈ b, d ≤ 15) (hne : a ≠ b) : ∃ i, i < a.length + 2 ∧ (withSum b).getD i 0 < (withSum a).getD i 0 := by
  refine Classical.byContradiction fun hno => ?_
  have hall : ∀ i, i < a.length + 2 → (withSum a).getD i 0 ≤ (withSum b).getD i 0 := fun i hi => Nat.le_of_not_lt fun h => hno ⟨i, hi, h⟩
  have hlow : ∀ i, a.getD i 0 ≤ b.getD i 0 := fun i => by
    by_cases hi : i < a.length
    · have := hall i (by omega)
      rw [withSum_low a i hi, withSum_low b i (by omega)] at this; exact this
    · rw [List.getD_eq_getElem?_getD, List.getElem?_eq_none (by omega)]; exact Nat.zero_le _
  have hr := (rest_lt a b hl hb hlow).2 hne
  have h1 := hall a.length (by omega)
  have h2 := hall (a.length + 1) (by omega)
  rw [withSum_one, hl, withSum_one] at h1
  rw [withSum_two, hl, withSum_two] at h2
  omega
theorem unhex_inj {c d : UInt8} (hc : isHex c = true) (hd : isHex d = true) (h : unhex c = unhex d) : c = d := by
  unfold isHex at hc hd
  simp at hc hd
  unfold unhex at h
  apply UInt8.toNat_inj.1
  split at h <;> split at h <;> omega
theorem map_unhex_inj : ∀ {a b : List UInt8}, a.all isHex = true → b.all isHex = true → a.map unhex = b.map unhex → a = b
  | [], [], _, _, _ => rfl
  | [], _ :: _, _, _, h => by simp at h
  | _ :: _, [], _, _, h => by simp at h
  | x :: a, y :: b, ha, hb, h => by
    simp only [List.all_cons, Bool.and_eq_true] at ha hb
    simp only [List.map_cons, List.cons.injEq] at h
    rw [unhex_inj ha.1 hb.1 h.1, map_unhex_inj ha.2 hb.2 h.2]
theorem some_digit_less {m o : List UInt8} (h : sum m ≠ sum o) : ∃ i, i < 18 ∧ digitAt o i < digitAt m i := by
  have h1 := (sum_hex m).2
  have h2 := (sum_hex o).2
  obtain ⟨i, hi, hlt⟩ := some_less ((sum m).map unhex) ((sum o).map unhex) (by simp [h1, h2]) (map_small o) (fun e => h (map_unhex_inj (sum_hex m).1 (sum_hex o).1 e))
  rw [List.length_map, h1] at hi
  exact ⟨i, hi, hlt⟩

/-! ### Lists of eighteen -/
theorem range_at {α : Type} (f : Nat → α) (n i : Nat) (x : α) (h : i < n) : ((List.range n).map f).getD i x = f i := by
  rw [List.getD_eq_getElem?_getD, List.getElem?_map, List.getElem?_range h]; rfl
theorem range_snoc {α : Type} (f : Nat → α) (n : Nat) : (List.range (n + 1)).map f = (List.range n).map f ++ [f n] := by
  rw [List.range_succ, List.map_append]; rfl
theorem range_inj {α : Type} {f g : Nat → α} {n : Nat} (h : (List.range n).map f = (List.range n).map g) (i : Nat) (hi : i < n) : f i = g i := by
  have := congrArg (fun l => l[i]?) h
  simp [hi] at this
  exact this
theorem sigOf_length (s m : List UInt8) : (sigOf s m).length = 18 := by unfold sigOf; simp
theorem startOf_isDigest (s : List UInt8) (i : Nat) : isDigest (startOf s i) = true := sum_isDigest _
theorem chain_of_digest {t : List UInt8} (h : isDigest t = true) (n : Nat) : isDigest (chain t n) = true := by
  cases n with
  | zero => exact h
  | succ n => exact sum_isDigest _
theorem sig_digests (s m : List UInt8) : (sigOf s m).all isDigest = true := by
  unfold sigOf
  rw [List.all_eq_true]
  intro x hx
  obtain ⟨i, _, rfl⟩ := List.mem_map.1 hx
  exact chain_of_digest (startOf_isDigest s i) _
theorem isDigest_length {t : List UInt8} (h : isDigest t = true) : t.length = 16 := by
  unfold isDigest at h
  simp only [Bool.and_eq_true, decide_eq_true_eq] at h
  exact h.1
theorem leads_sig (s m : List UInt8) : leads m (sigOf s m) = endsOf s := by
  unfold leads endsOf
  refine List.map_congr_left fun i hi => ?_
  rw [List.mem_range] at hi
  unfold leadAt sigOf
  rw [range_at _ _ _ _ hi]
  unfold sigAt endAt
  rw [chain_add]
  have := digitAt_le m i
  rw [show digitAt m i + (15 - digitAt m i) = 15 by omega]
/-- CORRECTNESS. -/
theorem verify_own (s m : List UInt8) : verify (pub s) m (sigOf s m) = true := by
  unfold verify
  rw [sig_digests, sigOf_length, leads_sig]
  simp [pub]
theorem pub_isDigest (s : List UInt8) : isDigest (pub s) = true := sum_isDigest _
/-- FORM. -/
theorem verify_form {p m : List UInt8} {l : List (List UInt8)} (h : verify p m l = true) : l.length = 18 ∧ l.all isDigest = true ∧ isDigest p = true := by
  unfold verify at h
  simp only [Bool.and_eq_true, decide_eq_true_eq, beq_iff_eq] at h
  exact ⟨h.1.1, h.1.2, by rw [← h.2]; exact sum_isDigest _⟩
theorem verify_other_length {p m : List UInt8} {l : List (List UInt8)} (h : l.length ≠ 18) : verify p m l = false := by
  unfold verify; simp [h]
theorem verify_empty (m : List UInt8) (l : List (List UInt8)) : verify [] m l = false := by
  cases h : verify [] m l
  · rfl
  · have := isDigest_length (verify_form h).2.2; cases this

/-! ### Two texts with one digest -/
def Collides (l : List (List UInt8)) : Prop := ∃ a b, a ∈ l ∧ b ∈ l ∧ a ≠ b ∧ sum a = sum b
theorem Collides.mono {l m : List (List UInt8)} (h : Collides l) (hs : ∀ x ∈ l, x ∈ m) : Collides m := by
  obtain ⟨a, b, ha, hb, h1, h2⟩ := h
  exact ⟨a, b, hs a ha, hs b hb, h1, h2⟩
theorem joined_collide {a b : List (List UInt8)} (hne : a ≠ b) (h : listSum a = listSum b) : Collides [joined a, joined b] :=
  ⟨joined a, joined b, by simp, by simp, fun e => hne (joined_inj e), h⟩
theorem meet {f g : Nat → List UInt8} (hf : ∀ j, f (j + 1) = sum (f j)) (hg : ∀ j, g (j + 1) = sum (g j)) (h0 : f 0 ≠ g 0) : ∀ n, f n = g n → ∃ j, j < n ∧ f j ≠ g j ∧ sum (f j) = sum (g j)
  | 0, h => absurd h h0
  | n + 1, h => by
    by_cases e : f n = g n
    · obtain ⟨j, hj, h1⟩ := meet hf hg h0 n e
      exact ⟨j, by omega, h1⟩
    · exact ⟨n, by omega, e, by rw [← hf, ← hg, h]⟩
/-- A text and the digests of its chain. -/
def links (t : List UInt8) (n : Nat) : List (List UInt8) := (List.range (n + 1)).map (chain t)
theorem mem_links {t : List UInt8} {n j : Nat} (h : j ≤ n) : chain t j ∈ links t n := List.mem_map.2 ⟨j, List.mem_range.2 (by omega), rfl⟩
/-- All that is digested for one chain. -/
def oneChain (s : List UInt8) (n i : Nat) : List (List UInt8) := joined [s, decDigits i] :: links (sum (joined [s, decDigits i])) n
def chainsTo (s : List UInt8) (n : Nat) : Nat → List (List UInt8)
  | 0 => []
  | k + 1 => chainsTo s n k ++ oneChain s n k
theorem mem_one {s : List UInt8} {n i j : Nat} (h : j ≤ n + 1) : chain (joined [s, decDigits i]) j ∈ oneChain s n i := by
  cases j with
  | zero => exact List.mem_cons_self
  | succ j =>
    refine List.mem_cons_of_mem _ ?_
    have : chain (joined [s, decDigits i]) (j + 1) = chain (sum (joined [s, decDigits i])) j := by
      rw [show j + 1 = 1 + j by omega, ← chain_add]; rfl
    rw [this]; exact mem_links (by omega)
theorem one_in {s : List UInt8} {n i : Nat} : ∀ {k : Nat}, i < k → ∀ x ∈ oneChain s n i, x ∈ chainsTo s n k
  | k + 1, h, x, hx => by
    rw [chainsTo]
    by_cases e : i = k
    · subst e; exact List.mem_append_right _ hx
    · exact List.mem_append_left _ (one_in (by omega) x hx)
theorem mem_chains {s : List UInt8} {n i j : Nat} (hi : i < 18) (h : j ≤ n + 1) : chain (joined [s, decDigits i]) j ∈ chainsTo s n 18 := one_in hi _ (mem_one h)
theorem startOf_chain (s : List UInt8) (i j : Nat) : chain (startOf s i) j = chain (joined [s, decDigits i]) (j + 1) := by
  rw [show j + 1 = 1 + j by omega, ← chain_add]; rfl
theorem colon_in (s : List UInt8) (i : Nat) : (58 : UInt8) ∈ joined [s, decDigits i] := by simp [joined, item]
theorem no_colon {t : List UInt8} (h : isDigest t = true) : (58 : UInt8) ∉ t := by
  intro hm
  unfold isDigest at h
  simp only [Bool.and_eq_true] at h
  have := List.all_eq_true.1 h.2 _ hm
  revert this; decide

/-- OTHER MESSAGES. -/
theorem binds {s m o : List UInt8} (hne : sum m ≠ sum o) (h : verify (pub s) o (sigOf s m) = true) : Collides (chainsTo s 30 18 ++ [joined (endsOf s), joined (leads o (sigOf s m))]) := by
  have hl : listSum (leads o (sigOf s m)) = listSum (endsOf s) := by
    unfold verify at h
    simp only [Bool.and_eq_true, beq_iff_eq] at h
    exact h.2
  by_cases he : endsOf s = leads o (sigOf s m)
  · obtain ⟨i, hi, hlt⟩ := some_digit_less hne
    have h1 := range_inj he i hi
    unfold leadAt sigOf at h1
    rw [range_at _ _ _ _ hi] at h1
    unfold sigAt endAt at h1
    rw [chain_add] at h1
    have hd := digitAt_le m i
    obtain ⟨k, hk⟩ : ∃ k, digitAt m i + (15 - digitAt o i) = 15 + k := ⟨digitAt m i - digitAt o i, by omega⟩
    have hk1 : 1 ≤ k := by omega
    have hk2 : k ≤ 15 := by omega
    rw [hk, startOf_chain, startOf_chain] at h1
    obtain ⟨N, hN⟩ : ∃ N, N = 15 + 1 := ⟨_, rfl⟩
    rw [show 15 + k + 1 = N + k by omega, ← hN] at h1
    obtain ⟨j, hj, h2, h3⟩ := meet (f := fun j => chain (joined [s, decDigits i]) j) (g := fun j => chain (joined [s, decDigits i]) (j + k)) (fun j => rfl)
      (fun j => by show chain _ (j + 1 + k) = _; rw [show j + 1 + k = (j + k) + 1 by omega]; rfl)
      (fun e => by
        have e' : joined [s, decDigits i] = chain (joined [s, decDigits i]) (0 + k) := e
        have hc := colon_in s i
        rw [e'] at hc
        exact no_colon (chain_isDigest _ (by omega)) hc) N h1
    exact ⟨_, _, List.mem_append_left _ (mem_chains hi (by omega)), List.mem_append_left _ (mem_chains hi (j := j + k) (by omega)), h2, h3⟩
  · exact (joined_collide he hl.symm).mono fun x hx => List.mem_append_right _ hx
theorem changes_links {q x : List UInt8} (hne : q ≠ x) (N : Nat) (hN : N ≤ 15) (h : chain q N = chain x N) : Collides (links x 16 ++ links q 16) := by
  obtain ⟨j, hj, h2, h3⟩ := meet (f := fun j => chain q j) (g := fun j => chain x j) (fun j => rfl) (fun j => rfl) hne N h
  exact ⟨_, _, List.mem_append_right _ (mem_links (j := j) (by omega)), List.mem_append_left _ (mem_links (j := j) (by omega)), h2, h3⟩
/-- CHANGES. -/
theorem changes {s m x : List UInt8} {i : Nat} (hi : i < 18) (hne : sigAt s m i ≠ x) (h : verify (pub s) m ((sigOf s m).set i x) = true) :
    Collides ((links x 16 ++ links (sigAt s m i) 16) ++ [joined (leads m (sigOf s m)), joined (leads m ((sigOf s m).set i x))]) := by
  have hl : listSum (leads m ((sigOf s m).set i x)) = listSum (leads m (sigOf s m)) := by
    unfold verify at h
    simp only [Bool.and_eq_true, beq_iff_eq] at h
    rw [h.2, leads_sig]; rfl
  by_cases he : leads m (sigOf s m) = leads m ((sigOf s m).set i x)
  · have h1 := range_inj he i hi
    unfold leadAt at h1
    have e1 : (sigOf s m).getD i [] = sigAt s m i := by unfold sigOf; rw [range_at _ _ _ _ hi]
    have e2 : ((sigOf s m).set i x).getD i [] = x := by
      rw [List.getD_eq_getElem?_getD, List.getElem?_set_self (by rw [sigOf_length]; exact hi)]; rfl
    rw [e1, e2] at h1
    clear hl he h e1 e2
    obtain ⟨N, hN⟩ : ∃ N, N = 15 - digitAt m i := ⟨_, rfl⟩
    have hN2 : N ≤ 15 := by omega
    rw [← hN] at h1
    clear hN
    exact Collides.mono (changes_links hne N hN2 h1) fun y hy => List.mem_append_left _ hy
  · exact (joined_collide he hl.symm).mono fun y hy => List.mem_append_right _ hy
/-- OTHER KEYS. -/
theorem keys {s o m : List UInt8} (hne : s ≠ o) (h : verify (pub o) m (sigOf s m) = true) :
    Collides ((chainsTo s 16 18 ++ chainsTo o 16 18) ++ [joined (endsOf s), joined (endsOf o)]) := by
  have hl : listSum (endsOf s) = listSum (endsOf o) := by
    unfold verify at h
    simp only [Bool.and_eq_true, beq_iff_eq] at h
    rw [← leads_sig s m, h.2]; rfl
  by_cases he : endsOf s = endsOf o
  · have h1 := range_inj he 0 (by decide)
    unfold endAt at h1
    rw [startOf_chain, startOf_chain] at h1
    obtain ⟨N, hN⟩ : ∃ N, N = 15 + 1 := ⟨_, rfl⟩
    rw [← hN] at h1
    obtain ⟨j, hj, h2, h3⟩ := meet (f := fun j => chain (joined [s, decDigits 0]) j) (g := fun j => chain (joined [o, decDigits 0]) j) (fun j => rfl) (fun j => rfl)
      (fun e => hne (by have := joined_inj (show joined [s, decDigits 0] = joined [o, decDigits 0] from e); simpa using this)) N h1
    exact ⟨_, _, List.mem_append_left _ (List.mem_append_left _ (mem_chains (j := j) (by decide) (by omega))), List.mem_append_left _ (List.mem_append_right _ (mem_chains (j := j) (by decide) (by omega))), h2, h3⟩
  · exact (joined_collide he hl).mono fun x hx => List.mem_append_right _ hx
end Foyer.Sign
