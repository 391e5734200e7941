/-
  The law RuleAlternatives: its walk.
-/
import Derived.Test.YtllhonjhjhajjabDoorLawAltsI
import Derived.Test.YtllhonjhjhajjabDoorLawAltsA
import Derived.Test.YtllhonjhjhajjabDoorLawAltsB
namespace Go.Proofs.YtllhonjhjhajjabDoor
open Go.RowKit Foyer.Rule

theorem alt_bare (x : ItemP) (n p : Nat) : ItemP.at_ (fun _ => 0) { x with conds := x.conds ++ [[⟨wHeld, 4, [], n, p⟩]] } = ItemP.at_ (fun _ => 0) { x with conds := x.conds ++ [[⟨wHeld, 4, [], n, 0⟩]] } := by
  unfold ItemP.at_
  simp [TestP.at_]
theorem alts_walk_of (hh : HeadC) (a : ByteArray) (n : Nat) (hn : n < 65536) (w : World) :
    Calls Tryd.prog 3 #[.string a, .int .u16 (n : Nat)] w fun e w' => e = .returned (.bool true) ∧ Below w.heap.size w w' := by
  by_cases hs : a.size = 0 ∨ 4000 < a.size
  · exact alts_short hh a n hn w hs
  have h4 : a.size ≤ 4000 := by omega
  obtain ⟨k, hk⟩ : ∃ k, a.size = k + 1 := ⟨a.size - 1, by omega⟩
  have hlt : k < a.size := by omega
  by_cases hz : a[k] = 59
  rotate_left
  · exact alts_semi hh a n hn w k hk h4 hlt hz
  obtain ⟨xs, E, O, hp⟩ : ∃ x E O, parseAll a.data.toList = (x, E, O) := ⟨_, _, _, rfl⟩
  obtain ⟨ts, F, O2, hx⟩ : ∃ ts F O2, Foyer.Lexer.lexAll a.data.toList = (ts, F, O2) := ⟨_, _, _, rfl⟩
  by_cases hi : E ≠ 0 ∨ xs.length ≠ 1
  · exact alts_none hh a n hn w k hk h4 hlt hz xs E O hp ts F O2 hx hi
  have hE : E = 0 := by omega
  subst hE
  obtain ⟨x, rfl⟩ : ∃ x, xs = [x] := List.length_eq_one_iff.1 (by omega)
  obtain ⟨ts', h1, _, _, h5⟩ := parse_inv hp
  obtain ⟨t0, r, s, m0, e, _⟩ := rules_cons h5
  obtain ⟨m, hm⟩ : ∃ m, ts'.length = m + 1 := ⟨r.length, by rw [e]; rfl⟩
  obtain ⟨t, ht⟩ : ∃ t, ts'[m]? = some t := ⟨_, List.getElem?_eq_getElem (by omega)⟩
  by_cases hc : t.pos ≠ k ∨ 12 ≤ x.conds.length
  · exact alts_idle hh a n hn w k hk h4 hlt hz x O hp ts' h1 m hm t ht hc
  have hpos : t.pos = k := by omega
  have hcl : x.conds.length < 12 := by omega
  have hsz := size_toList a
  obtain ⟨p, hq⟩ := alts (l := a.data.toList) (by omega) hp (ts := ts') (by rw [h1]) (t := t) (by rw [List.getLast?_eq_getElem?, hm]; exact ht) (by omega) hcl n hn
  rw [show a.data.toList.length - 1 = k by omega, show wHeld ++ [32, 60, 61, 32] = [104, 101, 108, 100, 32, 60, 61, 32] from rfl] at hq
  by_cases hne : x.conds = []
  · have hw : (32 :: (altW x.conds ++ [32])) = [32, 119, 104, 101, 110, 32] := by unfold altW; rw [if_pos hne]; rfl
    rw [hw] at hq
    exact alts_when hh a n hn w k hk h4 hlt hz x O hp ts' h1 m hm t ht hpos hcl hne _ _ rfl hq (alt_bare x n p)
  · have hw : (32 :: (altW x.conds ++ [32])) = [32, 111, 114, 32] := by unfold altW; rw [if_neg hne]; rfl
    rw [hw] at hq
    exact alts_or hh a n hn w k hk h4 hlt hz x O hp ts' h1 m hm t ht hpos hcl hne _ _ rfl hq (alt_bare x n p)
end Go.Proofs.YtllhonjhjhajjabDoor
