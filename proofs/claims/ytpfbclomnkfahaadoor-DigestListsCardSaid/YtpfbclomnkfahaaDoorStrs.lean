/-
  Slices of strings that came in; the law's own Few.
-/
import Derived.Test.YtpfbclomnkfahaaDoorLawBlock
import Derived.SliceStrings
namespace Go.Proofs.YtpfbclomnkfahaaDoor
open Go.RowKit Go.Sort Foyer.Digest

/-- A slice of strings that came in. -/
structure IsStrs (w : World) (a : Option Addr) (len : Nat) (ls : List (List UInt8)) : Prop where
  small : len ≤ maxLen
  length : ls.length = len
  rd : RdS w a ls
  each : ∀ t ∈ ls, t.length ≤ maxLen

theorem isStrs_nil (w : World) : IsStrs w none 0 [] := ⟨by unfold maxLen; omega, rfl, Or.inl rfl, by simp⟩
theorem isStrs_of {w : World} {a : Addr} {len cap : Nat} {ss : List ByteArray} (hl : len ≤ cap) (hm : cap ≤ maxLen) (hs : ss.length = cap)
    (hc : ∀ i, i < ss.length → w.cell? (a.add i) = some (.string (ss.getD i ByteArray.empty))) (hz : ∀ s ∈ ss, s.size ≤ maxLen) : ∃ ls, IsStrs w (some a) len ls := by
  refine ⟨(ss.take len).map fun s => s.data.toList, by omega, by simp; omega, ?_, ?_⟩
  · by_cases h0 : len = 0
    · subst h0; exact Or.inl (by simp)
    · obtain ⟨b, off, sp⟩ := a
      have h1 := hc 0 (by omega)
      have hsp : sp = none := by
        cases sp with
        | none => rfl
        | some q =>
          exfalso
          simp [World.cell?, Addr.add] at h1
          split at h1 <;> simp_all
      subst hsp
      have hadd : ∀ i, (⟨b, off, none⟩ : Addr).add i = ⟨b, off + i, none⟩ := fun i => by unfold Addr.add; split <;> simp_all
      refine Or.inr ⟨b, off, rfl, lt_of_cell (by rw [hadd] at h1; exact h1), fun j hj => ?_⟩
      have hj' : j < len := by simp at hj; omega
      have h2 := hc j (by omega)
      rw [hadd] at h2
      rw [h2]
      have e : ((ss.take len).map fun s => s.data.toList).getD j [] = (ss.getD j ByteArray.empty).data.toList := by
        have hjs : j < ss.length := by omega
        simp [List.getD_eq_getElem?_getD, hj', List.getElem?_eq_getElem hjs]
      rw [e, ← ba_eq]
  · intro t ht
    obtain ⟨s, hs', rfl⟩ := List.mem_map.1 ht
    have := hz s (List.mem_of_mem_take hs')
    simpa using this
theorem IsStrs.since {w w1 : World} {a : Option Addr} {len : Nat} {ls : List (List UInt8)} (h : IsStrs w a len ls) (hs : Since w w1) : IsStrs w1 a len ls :=
  ⟨h.small, h.length, h.rd.below (Nat.le_refl _) hs, h.each⟩

/-- Few enough. -/
def few (ls : List (List UInt8)) : Bool := ls.all (fun t => decide (t.length ≤ 200)) && decide (ls.length ≤ 30)
theorem few_iff {ls : List (List UInt8)} : few ls = true ↔ (∀ t ∈ ls, t.length ≤ 200) ∧ ls.length ≤ 30 := by
  unfold few; simp
theorem few_bad {ls : List (List UInt8)} {k : Nat} (hk : k < ls.length) (h : 200 < (ls.getD k []).length) : few ls = false := by
  cases e : few ls
  · rfl
  · have := (few_iff.1 e).1 (ls.getD k []) (by rw [List.getD_eq_getElem?_getD, List.getElem?_eq_getElem hk]; exact List.getElem_mem hk)
    omega

set_option maxRecDepth 100000 in
theorem few_any (ls : List (List UInt8)) (p : Option Addr) (len cap : Nat) (w : World) (h : IsStrs w p len ls) :
    Calls Tryd.prog 12 #[.slice p len cap, .int .i64 200] w fun e w' => e = .returned (.bool (few ls)) ∧ w = w' := by
  obtain ⟨hsm, hlen, hr, hea⟩ := h
  subst hlen
  unfold maxLen at hsm
  have HR := Lib.hid hr; clear hr
  have HEA : Hid (∀ k, k < ls.length → (ls.getD k []).length ≤ maxLen) := fun k hk => hea _ (by rw [List.getD_eq_getElem?_getD, List.getElem?_eq_getElem hk]; exact List.getElem_mem hk)
  clear hea
  have HBAD : Hid (∀ k, k < ls.length → 200 < (ls.getD k []).length → few ls = false) := fun k hk hh => few_bad hk hh
  have HFIN : Hid ((∀ t ∈ ls, t.length ≤ 200) → few ls = decide (ls.length ≤ 30)) := fun hh => by
    unfold few
    rw [List.all_eq_true.2 (fun t ht => by simpa using hh t ht), Bool.true_and]
  go_enter Tryd.func12, Tryd.ntmps12
  go_wp2
  go_loop [5] (fun i => ∃ k : Nat, k ≤ ls.length ∧ i = .int .i64 k ∧ Hid (∀ j, j < k → (ls.getD j []).length ≤ 200)) (fun i => ls.length - (intOf i).toNat)
  case atStart => exact ⟨0, Nat.zero_le _, rfl, Lib.hid (fun j hj => by omega)⟩
  case round =>
    obtain ⟨k, hk, rfl, HK⟩ := hrel
    by_cases hlt : k < ls.length
    · have hsz := HEA.out k hlt
      have hbad := HBAD.out k hlt
      have hnx : (ls.getD k []).length ≤ 200 → ∀ j, j < k + 1 → (ls.getD j []).length ≤ 200 := fun hh j hj => by
        by_cases e : j = k
        · rw [e]; exact hh
        · exact HK.out j (by omega)
      have HBK := Lib.hid hbad; have HNX := Lib.hid hnx; clear hbad hnx
      unfold maxLen at hsz
      rcases HR.out with e | ⟨b, off, rfl, _, hc⟩
      · rw [e] at hlt; simp at hlt
      · have hck := hc k hlt
        clear hc
        have hl2 : (⟨(ls.getD k []).toArray⟩ : ByteArray).size = (ls.getD k []).length := size_of_list _
        generalize ls.getD k [] = t at *
        by_cases h200 : 200 < t.length
        · have HF := Lib.hid (HBK.out h200)
          go_wp2
          go_ret
          exact ⟨by rw [HF.out]; rfl, rfl⟩
        · have HN2 := Lib.hid (HNX.out (by omega))
          go_wp2
          go_round
          case rel => exact ⟨k + 1, by omega, by go_num, HN2⟩
          case measure => simp [intOf]; omega
    · have hall : ∀ t ∈ ls, t.length ≤ 200 := fun t ht => by
        obtain ⟨j, hj, rfl⟩ := List.getElem_of_mem ht
        have := HK.out j (by omega)
        rw [List.getD_eq_getElem?_getD, List.getElem?_eq_getElem hj] at this
        exact this
      have HF := Lib.hid (HFIN.out hall)
      clear hall
      go_wp2
      go_ret
      exact ⟨by rw [HF.out]; simp; omega, rfl⟩
end Go.Proofs.YtpfbclomnkfahaaDoor
