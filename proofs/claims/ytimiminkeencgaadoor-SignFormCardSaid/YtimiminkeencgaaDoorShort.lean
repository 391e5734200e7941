/-
  The law's own 'short'.
-/
import Derived.Test.YtimiminkeencgaaDoorBase
namespace Go.Proofs.YtimiminkeencgaaDoor
open Go.RowKit Go.Sort

/-- Short enough. -/
def shortB (ls : List (List UInt8)) : Bool := ls.all (fun t => decide (t.length ≤ 300)) && decide (ls.length ≤ 40)
theorem short_iff' {ls : List (List UInt8)} : shortB ls = true ↔ (∀ t ∈ ls, t.length ≤ 300) ∧ ls.length ≤ 40 := by
  unfold shortB; simp
theorem short_bad {ls : List (List UInt8)} {k : Nat} (hk : k < ls.length) (h : 300 < (ls.getD k []).length) : shortB ls = false := by
  cases e : shortB ls
  · rfl
  · have := (short_iff'.1 e).1 (ls.getD k []) (by rw [List.getD_eq_getElem?_getD, List.getElem?_eq_getElem hk]; exact List.getElem_mem hk)
    omega

set_option maxRecDepth 100000 in
theorem short_any (ls : List (List UInt8)) (p : Option Addr) (len cap : Nat) (w : World) (h : IsStrs w p len ls) :
    Calls Tryd.prog 10 #[.slice p len cap] w fun e w' => e = .returned (.bool (shortB ls)) ∧ w = w' := by
  obtain ⟨hsm, hlen, hr, hea⟩ := h
  subst hlen
  unfold maxLen at hsm
  have HR := Lib.hid hr; clear hr
  have HEA : Hid (∀ k, k < ls.length → (ls.getD k []).length ≤ maxLen) := fun k hk => hea _ (by rw [List.getD_eq_getElem?_getD, List.getElem?_eq_getElem hk]; exact List.getElem_mem hk)
  clear hea
  have HBAD : Hid (∀ k, k < ls.length → 300 < (ls.getD k []).length → shortB ls = false) := fun k hk hh => short_bad hk hh
  have HFIN : Hid ((∀ t ∈ ls, t.length ≤ 300) → shortB ls = decide (ls.length ≤ 40)) := fun hh => by
    unfold shortB
    rw [List.all_eq_true.2 (fun t ht => by simpa using hh t ht), Bool.true_and]
  go_enter Tryd.func10, Tryd.ntmps10
  go_wp2
  go_loop [3] (fun i => ∃ k : Nat, k ≤ ls.length ∧ i = .int .i64 k ∧ Hid (∀ j, j < k → (ls.getD j []).length ≤ 300)) (fun i => ls.length - (intOf i).toNat)
  case atStart => exact ⟨0, Nat.zero_le _, rfl, Lib.hid (fun j hj => by omega)⟩
  case round =>
    obtain ⟨k, hk, rfl, HK⟩ := hrel
    by_cases hlt : k < ls.length
    · have hsz := HEA.out k hlt
      have hbad := HBAD.out k hlt
      have hnx : (ls.getD k []).length ≤ 300 → ∀ j, j < k + 1 → (ls.getD j []).length ≤ 300 := fun hh j hj => by
        by_cases e : j = k
        · rw [e]; exact hh
        · exact HK.out j (by omega)
      have HBK := Lib.hid hbad; have HNX := Lib.hid hnx; clear hbad hnx
      unfold maxLen at hsz
      rcases HR.out with e | ⟨b, off, rfl, _, hc⟩
      · rw [e] at hlt; simp at hlt
      · have hck := hc k hlt
        clear hc
        have hl2 : (⟨(ls.getD k []).toArray⟩ : ByteArray).size = (ls.getD k []).length := size_of_list _
        generalize ls.getD k [] = t at *
        by_cases h200 : 300 < t.length
        · have HF := Lib.hid (HBK.out h200)
          go_wp2
          go_ret
          exact ⟨by rw [HF.out]; rfl, rfl⟩
        · have HN2 := Lib.hid (HNX.out (by omega))
          go_wp2
          go_round
          case rel => exact ⟨k + 1, by omega, by go_num, HN2⟩
          case measure => simp [intOf]; omega
    · have hall : ∀ t ∈ ls, t.length ≤ 300 := fun t ht => by
        obtain ⟨j, hj, rfl⟩ := List.getElem_of_mem ht
        have := HK.out j (by omega)
        rw [List.getD_eq_getElem?_getD, List.getElem?_eq_getElem hj] at this
        exact this
      have HF := Lib.hid (HFIN.out hall)
      clear hall
      go_wp2
      go_ret
      exact ⟨by rw [HF.out]; simp; omega, rfl⟩
/-- Short, of two or three strings written out. -/
theorem short_two (a b : List UInt8) (r : Bool) (h : shortB [a, b] = r) (ha : a.length ≤ maxLen) (hb : b.length ≤ maxLen) (w : World) (T : TypeId) :
    Calls Tryd.prog 10 #[.slice (some ⟨w.heap.size, 0, none⟩) 2 2] (w.alloc (.cells #[.string ⟨a.toArray⟩, .string ⟨b.toArray⟩] T)) fun e w' => e = .returned (.bool r) ∧ w.alloc (.cells #[.string ⟨a.toArray⟩, .string ⟨b.toArray⟩] T) = w' := by
  rw [← h]
  exact short_any [a, b] _ 2 2 _ ⟨by unfold maxLen; omega, rfl, rd_two w a b T, by simp [ha, hb]⟩
theorem rd_three (w : World) (a b c : List UInt8) (T : TypeId) : RdS (w.alloc (.cells #[.string ⟨a.toArray⟩, .string ⟨b.toArray⟩, .string ⟨c.toArray⟩] T)) (some ⟨w.heap.size, 0, none⟩) [a, b, c] := by
  refine Or.inr ⟨w.heap.size, 0, rfl, by simp, fun j hj => ?_⟩
  match j, hj with
  | 0, _ => simp
  | 1, _ => simp
  | 2, _ => simp
theorem short_three (a b c : List UInt8) (r : Bool) (h : shortB [a, b, c] = r) (ha : a.length ≤ maxLen) (hb : b.length ≤ maxLen) (hc : c.length ≤ maxLen) (w : World) (T : TypeId) :
    Calls Tryd.prog 10 #[.slice (some ⟨w.heap.size, 0, none⟩) 3 3] (w.alloc (.cells #[.string ⟨a.toArray⟩, .string ⟨b.toArray⟩, .string ⟨c.toArray⟩] T)) fun e w' => e = .returned (.bool r) ∧ w.alloc (.cells #[.string ⟨a.toArray⟩, .string ⟨b.toArray⟩, .string ⟨c.toArray⟩] T) = w' := by
  rw [← h]
  exact short_any [a, b, c] _ 3 3 _ ⟨by unfold maxLen; omega, rfl, rd_three w a b c T, by simp [ha, hb, hc]⟩
end Go.Proofs.YtimiminkeencgaaDoor
