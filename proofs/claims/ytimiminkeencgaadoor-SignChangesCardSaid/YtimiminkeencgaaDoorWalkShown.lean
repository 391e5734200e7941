/-
  The law's own test for two texts with one digest: where there are two, it says so.
-/
import Derived.Test.YtimiminkeencgaaDoorWalkOwn
import Derived.BigQuiet
namespace Go.Proofs.YtimiminkeencgaaDoor
open Go.RowKit Go.Sort Foyer.Digest Foyer.Sign

/-- Two places whose texts differ and have one digest. -/
def hitAt (ls : List (List UInt8)) (i k : Nat) : Prop := sum (ls.getD i []) = sum (ls.getD k []) ∧ ls.getD i [] ≠ ls.getD k []
theorem hit_of {ls : List (List UInt8)} (h : Collides ls) : ∃ i k, i < ls.length ∧ k < i ∧ hitAt ls i k := by
  obtain ⟨a, b, ha, hb, hne, hs⟩ := h
  obtain ⟨i, hi, rfl⟩ := List.getElem_of_mem ha
  obtain ⟨k, hk, rfl⟩ := List.getElem_of_mem hb
  have e : ∀ j (hj : j < ls.length), ls.getD j [] = ls[j] := fun j hj => by rw [List.getD_eq_getElem?_getD, List.getElem?_eq_getElem hj]; rfl
  rcases Nat.lt_trichotomy i k with h | h | h
  · exact ⟨k, i, hk, h, by unfold hitAt; rw [e i hi, e k hk]; exact ⟨hs.symm, fun h => hne h.symm⟩⟩
  · subst h; exact absurd rfl hne
  · exact ⟨i, k, hi, h, by unfold hitAt; rw [e i hi, e k hk]; exact ⟨hs, hne⟩⟩
theorem sums_snoc (ls : List (List UInt8)) (k : Nat) (hk : k < ls.length) : (ls.take (k + 1)).map sum = (ls.take k).map sum ++ [sum (ls.getD k [])] := by
  rw [List.take_succ_eq_append_getElem hk, List.map_append, List.getD_eq_getElem?_getD, List.getElem?_eq_getElem hk]; rfl

set_option maxRecDepth 100000 in
set_option maxHeartbeats 2000000 in
theorem shown_any (ls : List (List UInt8)) (p : Option Addr) (len cap : Nat) (hlen : ls.length = len) (hl : len ≤ 100000) (ht : ∀ t ∈ ls, t.length ≤ 1000000000) (hc : Collides ls) (w : World) (hr : RdS w p ls) :
    Calls Tryd.prog 22 #[.slice p len cap] w fun e w' => e = .returned (.bool true) ∧ Below w.heap.size w w' := by
  subst hlen
  have HQ := Lib.hid hr
  have HTL : Hid (∀ k, k < ls.length → (ls.getD k []).length ≤ 1000000000) := fun k hk => by
    rw [List.getD_eq_getElem?_getD, List.getElem?_eq_getElem hk]; exact ht _ (List.getElem_mem hk)
  have HIT : Hid (∃ i k, i < ls.length ∧ k < i ∧ hitAt ls i k) := hit_of hc
  have HML : Hid (∀ k, k ≤ ls.length → ((ls.take k).map sum).length = k) := fun k hk => by rw [List.length_map, List.length_take]; omega
  have HSG : Hid (∀ k, k < ls.length → ((ls.take ls.length).map sum).getD k [] = sum (ls.getD k [])) := fun k hk => by
    rw [List.take_length, List.getD_eq_getElem?_getD, List.getElem?_map, List.getElem?_eq_getElem hk, List.getD_eq_getElem?_getD, List.getElem?_eq_getElem hk]; rfl
  clear hr ht hc
  go_enter Tryd.func22, Tryd.ntmps22
  go_wp2
  go_loopw [3, 4] (fun v i wr => ∃ (k : Nat) (z : Value), k ≤ ls.length ∧ i = .int .i64 k ∧ z = v ∧ Hid (OwnS wr w.heap.size z ((ls.take k).map sum)) ∧ Hid (Below w.heap.size w wr)) (fun _ i _ => ls.length - (intOf i).toNat)
  case atStart => exact ⟨0, _, Nat.zero_le _, rfl, rfl, Lib.hid (ownS_nil _ _), Lib.hid (Below.refl _ _)⟩
  case round =>
    obtain ⟨k, z, hk, rfl, rfl, HO, HB⟩ := hrel
    by_cases hlt : k < ls.length
    · have htl := HTL.out k hlt
      have hsn := sums_snoc ls k hlt
      have hml := HML.out k hk
      rcases (HQ.out.below (Nat.le_refl _) HB.out) with e | ⟨b, off, rfl, _, hcc⟩
      · rw [e] at hlt; simp at hlt
      · have hck := hcc k hlt
        clear hcc
        obtain ⟨y, hy⟩ : ∃ y, sum (ls.getD k []) = y := ⟨_, rfl⟩
        rw [hy] at hsn
        generalize ls.getD k [] = t at *
        generalize (ls.take k).map sum = L at *
        have HY := Lib.hid hy; have HSN := Lib.hid hsn
        clear hy hsn
        go_wp2_with fail
        refine (rsum_c t y HY.out (by omega) _).mono ?_; rintro e w1 ⟨rfl, rfl⟩
        go_wp2_with (at_builtin; refine wpList_append_s _ rfl _ _ rfl w.heap.size _ _ rfl (HO.out.alloc _) wr.heap.size 0 1 [y] 1 rfl rfl ?c1 ?d3 ?d5 ?_)
        case c1 =>
          intro j hj
          match j, hj with
          | 0, _ => simp
        case d3 => omega
        case d5 => have := HB.out.size; simp; omega
        intro v2 w2 hown2 hsz2 hbel2
        have HO2 := Lib.hid hown2
        have HB2 := Lib.hid (hbel2 _ _ (Nat.le_refl _) (HB.out.alloc HB.out.size _))
        clear hown2 hsz2 hbel2 hck
        go_wp2
        go_roundw
        case rel => exact ⟨k + 1, v2, by omega, by go_num, rfl, Lib.hid (by rw [HSN.out]; exact HO2.out), HB2⟩
        case measure => simp [intOf]; omega
    · obtain rfl : k = ls.length := by omega
      obtain ⟨ps, cs, hz, hrs, _⟩ := HO.out.slice
      rw [HML.out _ (Nat.le_refl _)] at hz
      subst hz
      have HRS := Lib.hid hrs
      clear hrs HO
      go_wp2
      go_loopw [5] (fun i wq => ∃ i' q : Nat, i' ≤ ls.length ∧ i = .int .i64 i' ∧ Hid (∀ a b, a < i' → b < a → ¬ hitAt ls a b) ∧ wq = wr.drewN q) (fun i _ => ls.length - (intOf i).toNat)
      case atStart => exact ⟨0, 0, Nat.zero_le _, rfl, Lib.hid (fun a b h => by omega), rfl⟩
      case round =>
        obtain ⟨i', q, hi', rfl, HN, rfl⟩ := hrel
        by_cases hlt : i' < ls.length
        · go_wp2
          go_loopw [6] (fun i wq => ∃ k' q : Nat, k' ≤ i' ∧ i = .int .i64 k' ∧ Hid (∀ b, b < k' → ¬ hitAt ls i' b) ∧ wq = wr.drewN q) (fun i _ => i' - (intOf i).toNat)
          case atStart => exact ⟨0, q, Nat.zero_le _, rfl, Lib.hid (fun b h => by omega), rfl⟩
          case round =>
            obtain ⟨k', q', hk', rfl, HNK, rfl⟩ := hrel
            by_cases hlt2 : k' < i'
            · have hkl : k' < ls.length := by omega
              rcases HRS.out with e | ⟨b1, o1, rfl, _, hc1⟩
              · have := HML.out ls.length (Nat.le_refl _); rw [e] at this; simp at this; omega
              · rcases (HQ.out.below (Nat.le_refl _) HB.out) with e | ⟨b2, o2, rfl, _, hc2⟩
                · rw [e] at hlt; simp at hlt
                · have hs1 := hc1 i' (by rw [HML.out _ (Nat.le_refl _)]; exact hlt)
                  have hs2 := hc1 k' (by rw [HML.out _ (Nat.le_refl _)]; exact hkl)
                  rw [HSG.out _ hlt] at hs1
                  rw [HSG.out _ hkl] at hs2
                  have ht1 := hc2 i' hlt
                  have ht2 := hc2 k' hkl
                  clear hc1 hc2
                  have HNX : Hid (¬ hitAt ls i' k' → ∀ b, b < k' + 1 → ¬ hitAt ls i' b) := fun hh b hb => by
                    by_cases e : b = k'
                    · rw [e]; exact hh
                    · exact HNK.out b (by omega)
                  have HIF : Hid (hitAt ls i' k' ↔ (sum (ls.getD i' []) = sum (ls.getD k' []) ∧ ls.getD i' [] ≠ ls.getD k' [])) := Iff.rfl
                  generalize sum (ls.getD i' []) = s1 at *
                  generalize sum (ls.getD k' []) = s2 at *
                  generalize ls.getD i' [] = x1 at *
                  generalize ls.getD k' [] = x2 at *
                  by_cases hs : s1 = s2
                  · have hb1 : (s1 == s2) = true := by simp [hs]
                    by_cases hx : x1 = x2
                    · have hb2 : (x1 == x2) = true := by simp [hx]
                      have HF := Lib.hid (HNX.out (fun h => (HIF.out.1 h).2 hx))
                      clear hs hx HNX HIF
                      go_wp2
                      go_quiet (fail)
                      go_wp2
                      go_roundw
                      case rel => exact ⟨k' + 1, q' + nq, by omega, by go_num, HF, rfl⟩
                      case measure => simp [intOf]; omega
                    · have hb2 : (x1 == x2) = false := by simp [hx]
                      clear hs hx HNX HIF
                      go_wp2
                      go_quiet (fail)
                      go_wp2
                      go_ret
                      exact ⟨rfl, below_drewN (below_drewN HB.out q') nq⟩
                  · have hb1 : (s1 == s2) = false := by simp [hs]
                    have HF := Lib.hid (HNX.out (fun h => hs (HIF.out.1 h).1))
                    clear hs HNX HIF
                    go_wp2
                    go_quiet (fail)
                    go_wp2
                    go_roundw
                    case rel => exact ⟨k' + 1, q' + nq, by omega, by go_num, HF, rfl⟩
                    case measure => simp [intOf]; omega
            · obtain rfl : k' = i' := by omega
              have HF : Hid (∀ a b, a < k' + 1 → b < a → ¬ hitAt ls a b) := fun a b ha hb => by
                by_cases e : a = k'
                · rw [e]; exact HNK.out b (by omega)
                · exact HN.out a b (by omega) hb
              go_wp2
              go_roundw
              case rel => exact ⟨k' + 1, q', by omega, by go_num, HF, rfl⟩
              case measure => simp [intOf]; omega
        · exfalso
          obtain ⟨a, b, ha, hb, hh⟩ := HIT.out
          exact HN.out a b (by omega) hb hh
end Go.Proofs.YtimiminkeencgaaDoor
