/-
  The plain mathematics of one more alternative at a rule's end.
-/
import Derived.Test.YtllhonjhjhajjabDoorMathLeaves
namespace Foyer.Rule
open Foyer.Lexer

/-! ### Decimal digits -/
def dig (n : Nat) : List UInt8 := if n < 10 then [UInt8.ofNat (48 + n)] else dig (n / 10) ++ [UInt8.ofNat (48 + n % 10)]
termination_by n
decreasing_by omega
theorem dig_small {n : Nat} (h : n < 10) : dig n = [UInt8.ofNat (48 + n)] := by rw [dig, if_pos h]
theorem dig_great {n : Nat} (h : ¬ n < 10) : dig n = dig (n / 10) ++ [UInt8.ofNat (48 + n % 10)] := by rw [dig, if_neg h]
theorem digit_byte {n : Nat} (h : n < 10) : isDigit (UInt8.ofNat (48 + n)) = true ∧ (UInt8.ofNat (48 + n)).toNat - 48 = n := by
  have : (UInt8.ofNat (48 + n)).toNat = 48 + n := by simp; omega
  unfold isDigit
  rw [this]
  exact ⟨by simp; omega, by omega⟩
theorem numFrom_snoc (l : List UInt8) (b : UInt8) : ∀ a, numFrom a (l ++ [b]) = 10 * numFrom a l + (b.toNat - 48) := by
  induction l with
  | nil => intro a; rw [List.nil_append, numFrom_cons, numFrom_nil, numFrom_nil]
  | cons c l ih => intro a; rw [List.cons_append, numFrom_cons, numFrom_cons]; exact ih _
theorem dig_facts : ∀ (k n : Nat), n < 10 ^ (k + 1) → (∀ b ∈ dig n, isDigit b = true) ∧ numVal (dig n) = n ∧ 1 ≤ (dig n).length ∧ (dig n).length ≤ k + 1
  | 0, n, h => by
    have h' : n < 10 := by simpa using h
    obtain ⟨h1, h2⟩ := digit_byte h'
    rw [dig_small h']
    refine ⟨fun b hb => ?_, ?_, by simp, by simp⟩
    · rw [List.mem_singleton] at hb; rw [hb]; exact h1
    · have := numFrom_snoc [] (UInt8.ofNat (48 + n)) 0
      unfold numVal
      rw [List.nil_append] at this
      rw [this, h2, numFrom_nil]
      omega
  | k + 1, n, h => by
    by_cases h' : n < 10
    · obtain ⟨h1, h2, h3, h4⟩ := dig_facts 0 n (by simpa using h')
      exact ⟨h1, h2, h3, by omega⟩
    · obtain ⟨h1, h2, h3, h4⟩ := dig_facts k (n / 10) (by
        rw [Nat.pow_succ] at h
        exact Nat.div_lt_of_lt_mul (by rw [Nat.mul_comm]; exact h))
      obtain ⟨g1, g2⟩ := digit_byte (show n % 10 < 10 by omega)
      rw [dig_great h']
      refine ⟨fun b hb => ?_, ?_, by simp, by simp; omega⟩
      · rcases List.mem_append.1 hb with hb | hb
        · exact h1 b hb
        · rw [List.mem_singleton] at hb; rw [hb]; exact g1
      · unfold numVal at h2 ⊢
        rw [numFrom_snoc, h2, g2]
        omega

/-! ### The tokens of what is put at the end -/
theorem alt_lx (a n : Nat) (hn : n < 65536) (T : List UInt8) (hT : IsTok 1 T 0 (some 32)) : ∃ p1 p2 p3 p4 p5, Lx a (32 :: (T ++ ([32] ++ (wHeld ++ ([32] ++ (wLe ++ ([32] ++ (dig n ++ ([] ++ (wSemi ++ [])))))))))) [⟨1, T, 0, p1⟩, ⟨1, wHeld, 0, p2⟩, ⟨3, wLe, 0, p3⟩, ⟨2, dig n, n, p4⟩, ⟨3, wSemi, 0, p5⟩] none := by
  obtain ⟨h1, h2, h3, h4⟩ := dig_facts 4 n (by omega)
  refine ⟨a + 1, a + 1 + T.length + 1, a + 1 + T.length + 1 + 4 + 1, a + 1 + T.length + 1 + 4 + 1 + 2 + 1, a + 1 + T.length + 1 + 4 + 1 + 2 + 1 + (dig n).length + 0, Lx.good a [32] T _ 1 0 _ none rfl hT ?_⟩
  refine Lx.good _ [32] wHeld _ 1 0 _ none rfl (Or.inl ⟨rfl, rfl, by decide, ⟨104, [101, 108, 100], rfl, by decide⟩, by decide, fun b hb => by cases hb; decide⟩) ?_
  refine Lx.good _ [32] wLe _ 3 0 _ none rfl (Or.inr (Or.inr (Or.inr (Or.inr ⟨rfl, rfl, 60, rfl, by decide⟩)))) ?_
  refine Lx.good _ [32] (dig n) _ 2 n _ none rfl (Or.inr (Or.inl ⟨rfl, h2.symm, h3, by omega, h1, fun b hb => by cases hb; decide⟩)) ?_
  refine Lx.good _ [] wSemi _ 3 0 _ none rfl (Or.inr (Or.inr (Or.inl ⟨rfl, rfl, 59, rfl, by decide⟩))) ?_
  exact Lx.nil _ [] rfl

/-! ### One more list behind the others -/
theorem alt_tests (n p2 p3 p4 p5 : Nat) : testsP [⟨1, wHeld, 0, p2⟩, ⟨3, wLe, 0, p3⟩, ⟨2, dig n, n, p4⟩, ⟨3, wSemi, 0, p5⟩] = .ok [⟨wHeld, 4, [], n, p2⟩] [⟨3, wSemi, 0, p5⟩] := by
  have ht : testP [⟨1, wHeld, 0, p2⟩, ⟨3, wLe, 0, p3⟩, ⟨2, dig n, n, p4⟩, ⟨3, wSemi, 0, p5⟩] = .ok ⟨wHeld, 4, [], n, p2⟩ [⟨3, wSemi, 0, p5⟩] := rfl
  have hna : ¬ wSemi = wAnd := by decide
  have hr : rest (sepW wAnd) testP 11 [⟨3, wSemi, 0, p5⟩] = .ok [] [⟨3, wSemi, 0, p5⟩] := rest_none (sepW_neg hna) _
  unfold testsP listP
  rw [then_of ht, then_of hr]
  rfl
theorem alts_rest : ∀ (n : Nat) (s : List Tok) (u : Tok) (as : List (List TestP)), rest (sepW wOr) testsP n s = .ok as [u] → as.length < n →
    ∃ q, s = q ++ [u] ∧ ∀ (o v : Tok) (m : List Tok) (c : List TestP), o.text = wOr → testsP m = .ok c [v] → ¬ v.text = wOr → rest (sepW wOr) testsP n (q ++ o :: m) = .ok (as ++ [c]) [v]
  | n, s, u, as, h, hl => by
    cases hs : sepW wOr s with
    | none =>
      rw [rest_none hs] at h
      cases h
      refine ⟨[], rfl, fun o v m c ho hm hv => ?_⟩
      obtain ⟨k, rfl⟩ : ∃ k, n = k + 1 := ⟨n - 1, by simp at hl; omega⟩
      rw [List.nil_append, rest_some (sepW_pos ho), then_of hm, then_of (rest_none (sepW_neg hv) k)]
      rfl
    | some r =>
      obtain ⟨t, rfl, ht⟩ : ∃ t, s = t :: r ∧ t.text = wOr := by
        cases s with
        | nil => cases hs
        | cons t s =>
          by_cases ht : t.text = wOr
          · rw [sepW_pos ht] at hs; cases hs; exact ⟨t, rfl, ht⟩
          · rw [sepW_neg ht] at hs; cases hs
      cases n with
      | zero => rw [rest_full hs] at h; cases h
      | succ n =>
        rw [rest_some hs] at h
        obtain ⟨a, s1, h1, h2⟩ := then_ok h
        obtain ⟨as1, s2, h3, h4⟩ := then_ok h2
        cases h4
        obtain ⟨q, rfl, hq⟩ := alts_rest n s1 u as1 h3 (by simp only [List.length_cons] at hl; omega)
        obtain ⟨pre, rfl, hpre⟩ := det_tests.ok _ _ _ h1
        refine ⟨t :: (pre ++ q), by simp, fun o v m c ho hm hv => ?_⟩
        have hd1 : testsP (pre ++ (q ++ o :: m)) = .ok a (q ++ o :: m) := hpre _ (by
          cases q with
          | nil => exact Or.inr (fun s hs => by
              have : o.text = s := Option.some.inj hs
              rw [← this, ho]
              unfold oTests
              decide)
          | cons t q => exact Or.inl rfl)
        rw [List.cons_append, rest_some (sepW_pos ht), List.append_assoc, then_of hd1, then_of (hq o v m c ho hm hv)]
        rfl
theorem alts_lists {s : List Tok} {u : Tok} {cs : List (List TestP)} (h : listsP s = .ok cs [u]) (hl : cs.length < 12) :
    cs ≠ [] ∧ ∃ q, s = q ++ [u] ∧ ∀ (o v : Tok) (m : List Tok) (c : List TestP), o.text = wOr → testsP m = .ok c [v] → ¬ v.text = wOr → listsP (q ++ o :: m) = .ok (cs ++ [c]) [v] := by
  unfold listsP listP at h ⊢
  obtain ⟨a, s1, h1, h2⟩ := then_ok h
  obtain ⟨as1, s2, h3, h4⟩ := then_ok h2
  cases h4
  refine ⟨List.cons_ne_nil _ _, ?_⟩
  obtain ⟨q, rfl, hq⟩ := alts_rest 11 s1 u as1 h3 (by simp only [List.length_cons] at hl; omega)
  obtain ⟨pre, rfl, hpre⟩ := det_tests.ok _ _ _ h1
  refine ⟨pre ++ q, by simp, fun o v m c ho hm hv => ?_⟩
  have hd1 : testsP (pre ++ (q ++ o :: m)) = .ok a (q ++ o :: m) := hpre _ (by
    cases q with
    | nil => exact Or.inr (fun s hs => by
        have : o.text = s := Option.some.inj hs
        rw [← this, ho]
        unfold oTests
        decide)
    | cons t q => exact Or.inl rfl)
  rw [List.append_assoc, then_of hd1, then_of (hq o v m c ho hm hv)]
  rfl
/-- The word in front of one more list. -/
def altW (cs : List (List TestP)) : List UInt8 := if cs = [] then wWhen else wOr
theorem alts_conds {s : List Tok} {u : Tok} {cs : List (List TestP)} (h : condsP s = .ok cs [u]) (hl : cs.length < 12) :
    ∃ q, s = q ++ [u] ∧ ∀ (o v : Tok) (m : List Tok) (c : List TestP), o.text = altW cs → testsP m = .ok c [v] → v.text = wSemi → condsP (q ++ o :: m) = .ok (cs ++ [c]) [v] := by
  unfold condsP at h ⊢
  cases hs : sepW wWhen s with
  | none =>
    rw [ifSep_none hs] at h
    cases h
    refine ⟨[], rfl, fun o v m c ho hm hv => ?_⟩
    have ho' : o.text = wWhen := ho
    rw [List.nil_append, ifSep_some (sepW_pos ho')]
    unfold listsP listP
    rw [then_of hm, then_of (rest_none (sepW_neg (by rw [hv]; decide)) 11)]
    rfl
  | some r =>
    obtain ⟨t, rfl, ht⟩ : ∃ t, s = t :: r ∧ t.text = wWhen := by
      cases s with
      | nil => cases hs
      | cons t s =>
        by_cases ht : t.text = wWhen
        · rw [sepW_pos ht] at hs; cases hs; exact ⟨t, rfl, ht⟩
        · rw [sepW_neg ht] at hs; cases hs
    rw [ifSep_some hs] at h
    obtain ⟨hne, q, rfl, hq⟩ := alts_lists h hl
    refine ⟨t :: q, rfl, fun o v m c ho hm hv => ?_⟩
    have ho' : o.text = wOr := by rw [ho]; unfold altW; rw [if_neg hne]
    rw [List.cons_append, ifSep_some (sepW_pos ht)]
    exact hq o v m c ho' hm (by rw [hv]; decide)
theorem alts_item {ts : List Tok} {x : ItemP} (h : itemP ts = .ok x []) (hl : x.conds.length < 12) :
    ∃ q u, ts = q ++ [u] ∧ ∀ (o v : Tok) (m : List Tok) (c : List TestP), o.text = altW x.conds → testsP m = .ok c [v] → v.text = wSemi → itemP (q ++ o :: m) = .ok { x with conds := x.conds ++ [c] } [] := by
  obtain ⟨f, s1, h1, h2⟩ := then_ok h
  obtain ⟨cs, s2, h3, h4⟩ := then_ok h2
  obtain ⟨u, s3, h5, h6⟩ := then_ok h4
  cases h6
  obtain ⟨rfl, _⟩ := takeP_ok h5
  obtain ⟨q, rfl, hq⟩ := alts_conds h3 hl
  obtain ⟨pre, rfl, hpre⟩ := det_front.ok _ _ _ h1
  refine ⟨pre ++ q, u, by simp, fun o v m c ho hm hv => ?_⟩
  have hd1 : frontP (pre ++ (q ++ o :: m)) = .ok f (q ++ o :: m) := hpre _ (by
    cases q with
    | nil => exact Or.inr (fun s hs => by
        have : o.text = s := Option.some.inj hs
        rw [← this, ho]
        unfold altW oHead
        split <;> decide)
    | cons t q => exact Or.inl rfl)
  rw [List.append_assoc]
  unfold itemP
  have hw : word wSemi [v] = .ok v [] := takeP_pos (decide_eq_true hv)
  rw [then_of hd1, then_of (hq o v m c ho hm hv), then_of hw]
  rfl
theorem alts_rules {ts : List Tok} {x : ItemP} (h : rulesP ts = .ok [x] []) (hl : x.conds.length < 12) :
    ∃ q u, ts = q ++ [u] ∧ ∀ (o v : Tok) (m : List Tok) (c : List TestP), o.text = altW x.conds → testsP m = .ok c [v] → v.text = wSemi → rulesP (q ++ o :: m) = .ok [{ x with conds := x.conds ++ [c] }] [] := by
  obtain ⟨t, r, s, m, rfl, hm, h1, h2⟩ := rules_cons h
  cases rules_nil h2
  obtain ⟨q, u, e, hq⟩ := alts_item h1 hl
  refine ⟨q, u, e, fun o v m c ho hm hv => ?_⟩
  have h3 := hq o v m c ho hm hv
  obtain ⟨z, zs, hz⟩ : ∃ z zs, q ++ o :: m = z :: zs := by
    cases q with
    | nil => exact ⟨_, _, rfl⟩
    | cons z zs => exact ⟨_, _, rfl⟩
  unfold rulesP
  rw [hz] at h3 ⊢
  rw [rest_some (sep := sepL) (r := z :: zs) rfl 199, then_of h3, then_of (rest_none rfl 199)]
  rfl
/-- P7.7 -/
theorem alts {l : List UInt8} (hl : l.length ≤ 4000) {x : ItemP} {O : Int} (h : parseAll l = ([x], 0, O)) {ts : List Tok} (hts : (lexAll l).1 = ts) {t : Tok} (ht : ts.getLast? = some t) (hpos : t.pos + 1 = l.length) (hc : x.conds.length < 12) (n : Nat) (hn : n < 65536) :
    ∃ p, parseAll ((((l.take (l.length - 1) ++ (32 :: (altW x.conds ++ [32]))) ++ (wHeld ++ [32, 60, 61, 32])) ++ dig n) ++ [59]) = ([{ x with conds := x.conds ++ [[⟨wHeld, 4, [], n, p⟩]] }], 0, 0) := by
  obtain ⟨ts', h1, h2, _, h4⟩ := parse_inv h
  rw [h1] at hts
  cases hts
  obtain ⟨q, u, rfl, hq⟩ := alts_rules h4 hc
  rw [List.getLast?_append, List.getLast?_singleton] at ht
  have hu : u = t := by simpa using ht
  subst hu
  have hT : IsTok 1 (altW x.conds) 0 (some 32) := by
    unfold altW
    split
    · exact Or.inl ⟨rfl, rfl, by decide, ⟨119, [104, 101, 110], rfl, by decide⟩, by decide, fun b hb => by cases hb; decide⟩
    · exact Or.inl ⟨rfl, rfl, by decide, ⟨111, [114], rfl, by decide⟩, by decide, fun b hb => by cases hb; decide⟩
  obtain ⟨p1, p2, p3, p4, p5, hx⟩ := alt_lx u.pos n hn (altW x.conds) hT
  have h5 := lx_resume h2 (by decide) hx
  obtain ⟨_, _, g3, g4⟩ := dig_facts 4 n (by omega)
  have hW : (altW x.conds).length ≤ 4 := by unfold altW; split <;> decide
  have e : (((l.take (l.length - 1) ++ (32 :: (altW x.conds ++ [32]))) ++ (wHeld ++ [32, 60, 61, 32])) ++ dig n) ++ [59] = l.take (u.pos - 0) ++ (32 :: (altW x.conds ++ ([32] ++ (wHeld ++ ([32] ++ (wLe ++ ([32] ++ (dig n ++ ([] ++ (wSemi ++ [])))))))))) := by
    rw [show u.pos - 0 = l.length - 1 by omega]
    simp [wHeld, wLe, wSemi]
  rw [e]
  have hle := lexAll_none (by simp only [List.length_append, List.length_take, List.length_cons, List.length_nil, show wHeld.length = 4 from rfl, show wLe.length = 2 from rfl, show wSemi.length = 1 from rfl]; omega) h5
  exact ⟨p2, parse_rules hle (hq ⟨1, altW x.conds, 0, p1⟩ ⟨3, wSemi, 0, p5⟩ _ _ rfl (alt_tests n p2 p3 p4 p5) rfl)⟩
end Foyer.Rule
