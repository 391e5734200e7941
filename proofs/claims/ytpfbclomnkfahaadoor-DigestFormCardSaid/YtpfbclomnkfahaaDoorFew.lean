/-
  The law's own Few.
-/
import Derived.Test.YtpfbclomnkfahaaDoorWalkList
namespace Go.Proofs.YtpfbclomnkfahaaDoor
open Go.RowKit Go.Sort Foyer.Digest

/-- Few enough. -/
def few (ls : List (List UInt8)) : Bool := ls.all (fun t => decide (t.length ≤ 200)) && decide (ls.length ≤ 30)
theorem few_iff {ls : List (List UInt8)} : few ls = true ↔ (∀ t ∈ ls, t.length ≤ 200) ∧ ls.length ≤ 30 := by
  unfold few; simp
theorem few_bad {ls : List (List UInt8)} {k : Nat} (hk : k < ls.length) (h : 200 < (ls.getD k []).length) : few ls = false := by
  cases e : few ls
  · rfl
  · have := (few_iff.1 e).1 (ls.getD k []) (by rw [List.getD_eq_getElem?_getD, List.getElem?_eq_getElem hk]; exact List.getElem_mem hk)
    omega

set_option maxRecDepth 100000 in
theorem few_any (ls : List (List UInt8)) (p : Option Addr) (len cap : Nat) (w : World) (h : IsStrs w p len ls) :
    Calls Tryd.prog 12 #[.slice p len cap, .int .i64 200] w fun e w' => e = .returned (.bool (few ls)) ∧ w = w' := by
  obtain ⟨hsm, hlen, hr, hea⟩ := h
  subst hlen
  unfold maxLen at hsm
  have HR := Lib.hid hr; clear hr
  have HEA : Hid (∀ k, k < ls.length → (ls.getD k []).length ≤ maxLen) := fun k hk => hea _ (by rw [List.getD_eq_getElem?_getD, List.getElem?_eq_getElem hk]; exact List.getElem_mem hk)
  clear hea
  have HBAD : Hid (∀ k, k < ls.length → 200 < (ls.getD k []).length → few ls = false) := fun k hk hh => few_bad hk hh
  have HFIN : Hid ((∀ t ∈ ls, t.length ≤ 200) → few ls = decide (ls.length ≤ 30)) := fun hh => by
    unfold few
    rw [List.all_eq_true.2 (fun t ht => by simpa using hh t ht), Bool.true_and]
  go_enter Tryd.func12, Tryd.ntmps12
  go_wp2
  go_loop [5] (fun i => ∃ k : Nat, k ≤ ls.length ∧ i = .int .i64 k ∧ Hid (∀ j, j < k → (ls.getD j []).length ≤ 200)) (fun i => ls.length - (intOf i).toNat)
  case atStart => exact ⟨0, Nat.zero_le _, rfl, Lib.hid (fun j hj => by omega)⟩
  case round =>
    obtain ⟨k, hk, rfl, HK⟩ := hrel
    by_cases hlt : k < ls.length
    · have hsz := HEA.out k hlt
      have hbad := HBAD.out k hlt
      have hnx : (ls.getD k []).length ≤ 200 → ∀ j, j < k + 1 → (ls.getD j []).length ≤ 200 := fun hh j hj => by
        by_cases e : j = k
        · rw [e]; exact hh
        · exact HK.out j (by omega)
      have HBK := Lib.hid hbad; have HNX := Lib.hid hnx; clear hbad hnx
      unfold maxLen at hsz
      rcases HR.out with e | ⟨b, off, rfl, _, hc⟩
      · rw [e] at hlt; simp at hlt
      · have hck := hc k hlt
        clear hc
        have hl2 : (⟨(ls.getD k []).toArray⟩ : ByteArray).size = (ls.getD k []).length := size_of_list _
        generalize ls.getD k [] = t at *
        by_cases h200 : 200 < t.length
        · have HF := Lib.hid (HBK.out h200)
          go_wp2
          go_ret
          exact ⟨by rw [HF.out]; rfl, rfl⟩
        · have HN2 := Lib.hid (HNX.out (by omega))
          go_wp2
          go_round
          case rel => exact ⟨k + 1, by omega, by go_num, HN2⟩
          case measure => simp [intOf]; omega
    · have hall : ∀ t ∈ ls, t.length ≤ 200 := fun t ht => by
        obtain ⟨j, hj, rfl⟩ := List.getElem_of_mem ht
        have := HK.out j (by omega)
        rw [List.getD_eq_getElem?_getD, List.getElem?_eq_getElem hj] at this
        exact this
      have HF := Lib.hid (HFIN.out hall)
      clear hall
      go_wp2
      go_ret
      exact ⟨by rw [HF.out]; simp; omega, rfl⟩
end Go.Proofs.YtpfbclomnkfahaaDoor
