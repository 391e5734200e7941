/-
  The law's own 'short'.
-/
import Derived.Test.YtkjgdgocjnocaaaDoorBase
namespace Go.Proofs.YtkjgdgocjnocaaaDoor
open Go.RowKit Go.Sort

/-- Short enough. -/
def shortN (ls : List (List UInt8)) (n : Nat) : Bool := ls.all (fun t => decide (t.length ≤ 200)) && decide (ls.length ≤ n)
theorem short_iff' {ls : List (List UInt8)} {n : Nat} : shortN ls n = true ↔ (∀ t ∈ ls, t.length ≤ 200) ∧ ls.length ≤ n := by
  unfold shortN; simp
theorem short_bad {ls : List (List UInt8)} {n k : Nat} (hk : k < ls.length) (h : 200 < (ls.getD k []).length) : shortN ls n = false := by
  cases e : shortN ls n
  · rfl
  · have := (short_iff'.1 e).1 (ls.getD k []) (by rw [List.getD_eq_getElem?_getD, List.getElem?_eq_getElem hk]; exact List.getElem_mem hk)
    omega

set_option maxRecDepth 100000 in
theorem short_c (ls : List (List UInt8)) (n : Nat) (hn : n ≤ 1000) (r : Bool) (hres : shortN ls n = r) (p : Option Addr) (len cap : Nat) (w : World) (h : IsStrs w p len ls) :
    Calls Tryd.prog 10 #[.slice p len cap, .int .i64 n] w fun e w' => e = .returned (.bool r) ∧ w = w' := by
  obtain ⟨hsm, hlen, hr, hea⟩ := h
  subst hlen hres
  unfold maxLen at hsm
  by_cases hbig : ls.length ≤ n
  · have HR := Lib.hid hr; clear hr
    have HEA : Hid (∀ k, k < ls.length → (ls.getD k []).length ≤ maxLen) := fun k hk => hea _ (by rw [List.getD_eq_getElem?_getD, List.getElem?_eq_getElem hk]; exact List.getElem_mem hk)
    clear hea
    have HBAD : Hid (∀ k, k < ls.length → 200 < (ls.getD k []).length → shortN ls n = false) := fun k hk hh => short_bad hk hh
    have HFIN : Hid ((∀ t ∈ ls, t.length ≤ 200) → shortN ls n = true) := fun hh => short_iff'.2 ⟨hh, hbig⟩
    have hle : decide ((ls.length : Int) ≤ (n : Int)) = true := by simp; omega
    go_enter Tryd.func10, Tryd.ntmps10
    go_wp2
    go_loop [5] (fun i => ∃ k : Nat, k ≤ ls.length ∧ i = .int .i64 k ∧ Hid (∀ j, j < k → (ls.getD j []).length ≤ 200)) (fun i => ls.length - (intOf i).toNat)
    case atStart => exact ⟨0, Nat.zero_le _, rfl, Lib.hid (fun j hj => by omega)⟩
    case round =>
      obtain ⟨k, hk, rfl, HK⟩ := hrel
      by_cases hlt : k < ls.length
      · have hsz := HEA.out k hlt
        have hbad := HBAD.out k hlt
        have hnx : (ls.getD k []).length ≤ 200 → ∀ j, j < k + 1 → (ls.getD j []).length ≤ 200 := fun hh j hj => by
          by_cases e : j = k
          · rw [e]; exact hh
          · exact HK.out j (by omega)
        have HBK := Lib.hid hbad; have HNX := Lib.hid hnx; clear hbad hnx
        unfold maxLen at hsz
        rcases HR.out with e | ⟨b, off, rfl, _, hc⟩
        · rw [e] at hlt; simp at hlt
        · have hck := hc k hlt
          clear hc
          have hl2 : (⟨(ls.getD k []).toArray⟩ : ByteArray).size = (ls.getD k []).length := size_of_list _
          generalize ls.getD k [] = t at *
          by_cases h200 : 200 < t.length
          · have HF := Lib.hid (HBK.out h200)
            go_wp2
            go_ret
            exact ⟨by rw [HF.out]; rfl, rfl⟩
          · have HN2 := Lib.hid (HNX.out (by omega))
            go_wp2
            go_round
            case rel => exact ⟨k + 1, by omega, by go_num, HN2⟩
            case measure => simp [intOf]; omega
      · have hall : ∀ t ∈ ls, t.length ≤ 200 := fun t ht => by
          obtain ⟨j, hj, rfl⟩ := List.getElem_of_mem ht
          have := HK.out j (by omega)
          rw [List.getD_eq_getElem?_getD, List.getElem?_eq_getElem hj] at this
          exact this
        have HF := Lib.hid (HFIN.out hall)
        clear hall
        go_wp2
        go_ret
        exact ⟨by rw [HF.out]; rfl, rfl⟩
  · have hres : shortN ls n = false := by
      unfold shortN
      rw [show decide (ls.length ≤ n) = false by simp; omega, Bool.and_false]
    rw [hres]
    have hle : decide ((ls.length : Int) ≤ (n : Int)) = false := by simp; omega
    clear hres hr hea
    go_enter Tryd.func10, Tryd.ntmps10
    go_wp2
    go_loop [5] (fun i => i = .int .i64 0) (fun _ => 0)
    case atStart => rfl
    case round =>
      subst hrel
      by_cases h0 : 0 < ls.length
      · have hd : decide ((0 : Int) < (ls.length : Int)) = true := by simp; omega
        go_wp2
        go_ret
        exact ⟨rfl, rfl⟩
      · exact absurd (by omega : ls.length ≤ n) hbig
end Go.Proofs.YtkjgdgocjnocaaaDoor
