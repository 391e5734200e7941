/-
  The document's own Weights: it returns what the program's does.
-/
import Derived.Test.YtdjilieadhnhcaaDoorRefNum
namespace Go.Proofs.YtdjilieadhnhcaaDoor
open Go.RowKit Foyer.Money

theorem sum_pos_iff : ∀ {l : List Int}, (∀ z ∈ l, 0 ≤ z) → (0 < l.sum ↔ ∃ z ∈ l, 0 < z)
  | [], _ => by simp
  | a :: l, h => by
    have ih := sum_pos_iff (l := l) fun z hz => h z (List.mem_cons_of_mem _ hz)
    have h0 := sum_nonneg fun z hz => h z (List.mem_cons_of_mem _ hz)
    have ha := h a (by simp)
    simp only [List.sum_cons, List.mem_cons]
    constructor
    · intro hs
      by_cases hp : 0 < a
      · exact ⟨a, Or.inl rfl, hp⟩
      · obtain ⟨z, hz, hz'⟩ := ih.1 (by omega)
        exact ⟨z, Or.inr hz, hz'⟩
    · rintro ⟨z, rfl | hz, hp⟩
      · omega
      · have := ih.2 ⟨z, hz, hp⟩; omega
/-- Is one of the first k weights greater than 0? -/
def some0 (zs : List Int) (k : Nat) : Bool := (zs.take k).any fun z => decide (0 < z)
theorem some0_succ (zs : List Int) (k : Nat) (hk : k < zs.length) : some0 zs (k + 1) = (some0 zs k || decide (0 < zs.getD k 0)) := by
  unfold some0
  rw [List.take_succ_eq_append_getElem hk, List.any_append, List.getD_eq_getElem?_getD, List.getElem?_eq_getElem hk]
  simp
theorem weights_some {zs : List Int} (h : ∀ j, j < zs.length → 0 ≤ zs.getD j 0 ∧ zs.getD j 0 ≤ 1000000000) : vWeights zs = some0 zs zs.length := by
  have h' : ∀ z ∈ zs, 0 ≤ z ∧ z ≤ 1000000000 := by
    intro z hz
    obtain ⟨k, hk, rfl⟩ := List.mem_iff_getElem.1 hz
    have := h k hk
    rw [List.getD_eq_getElem?_getD, List.getElem?_eq_getElem hk] at this
    exact this
  rw [Bool.eq_iff_iff, vWeights_iff]
  unfold some0
  rw [List.take_length, List.any_eq_true]
  simp only [decide_eq_true_eq]
  rw [sum_pos_iff fun z hz => (h' z hz).1]
  exact ⟨fun x => x.2, fun x => ⟨h', x⟩⟩
theorem weights_false {zs : List Int} {k : Nat} (hk : k < zs.length) (h : ¬ (0 ≤ zs.getD k 0 ∧ zs.getD k 0 ≤ 1000000000)) : vWeights zs = false := by
  cases hv : vWeights zs
  · rfl
  · have := (vWeights_iff.1 hv).1 (zs.getD k 0) (by rw [List.getD_eq_getElem?_getD, List.getElem?_eq_getElem hk]; exact List.getElem_mem _)
    exact absurd this h

set_option maxRecDepth 100000 in
theorem rweights_any (zs : List Int) (p : Option Addr) (cap : Nat) (w : World) (h : Rd w p zs) (hl : zs.length ≤ 1000) :
    Calls Tryd.prog 32 #[.slice p zs.length cap] w fun e w' => e = .returned (.bool (vWeights zs)) ∧ w = w' := by
  have Hr := Lib.hid h; clear h
  go_enter Tryd.func32, Tryd.ntmps32
  go_wp2
  go_loop [3, 4] (fun t i => ∃ k : Nat, k ≤ zs.length ∧ i = .int .i64 k ∧ t = .bool (some0 zs k) ∧ Hid (∀ j, j < k → 0 ≤ zs.getD j 0 ∧ zs.getD j 0 ≤ 1000000000)) (fun _ i => zs.length - (intOf i).toNat)
  case atStart => exact ⟨0, Nat.zero_le _, rfl, rfl, Lib.hid (fun j hj => absurd hj (Nat.not_lt_zero _))⟩
  case round =>
    obtain ⟨k, hk, rfl, rfl, Hv⟩ := hrel
    by_cases hlt : k < zs.length
    · rcases Hr.out with e | ⟨b, off, rfl, _, hc⟩
      · rw [e] at hlt; simp at hlt
      · have hck := hc k hlt
        clear hc
        have hs := some0_succ zs k hlt
        generalize hz : zs.getD k 0 = z at *
        have Hz := Lib.hid hz; have Hs := Lib.hid hs; clear hz hs
        by_cases hz0 : z < 0
        · have HS : Hid (vWeights zs = false) := weights_false hlt (by rw [Hz.out]; omega)
          go_wp2
          go_ret
          exact ⟨by rw [HS.out]; rfl, rfl⟩
        · by_cases hvz : valid z = true
          · obtain ⟨z1, z2⟩ := valid_iff.1 hvz
            have Hv' := Lib.hid (upto_succ Hv.out (by rw [Hz.out]; omega)); clear Hv
            cases hsk : some0 zs k
            · by_cases hzp : 0 < z
              · rw [hsk] at Hs
                have Hs' : Hid (some0 zs (k + 1) = true) := by show some0 zs (k + 1) = true; rw [Hs.out]; simp [hzp]
                clear hsk
                go_wp2_with (go_at_call 21; refine (rvalid_yes _ _ hvz).mono ?_; rintro e w' ⟨rfl, rfl⟩)
                go_round
                case rel => exact ⟨k + 1, by omega, by go_num, by rw [Hs'.out], Hv'⟩
                case measure => simp [intOf]; omega
              · rw [hsk] at Hs
                have Hs' : Hid (some0 zs (k + 1) = false) := by show some0 zs (k + 1) = false; rw [Hs.out]; simp [hzp]
                clear hsk
                have hzn : z ≤ 0 := by omega
                clear hzp
                go_wp2_with (go_at_call 21; refine (rvalid_yes _ _ hvz).mono ?_; rintro e w' ⟨rfl, rfl⟩)
                go_round
                case rel => exact ⟨k + 1, by omega, by go_num, by rw [Hs'.out]; simp; omega, Hv'⟩
                case measure => simp [intOf]; omega
            · rw [hsk] at Hs
              have Hs' : Hid (some0 zs (k + 1) = true) := by show some0 zs (k + 1) = true; rw [Hs.out]; rfl
              clear hsk
              go_wp2_with (go_at_call 21; refine (rvalid_yes _ _ hvz).mono ?_; rintro e w' ⟨rfl, rfl⟩)
              go_round
              case rel => exact ⟨k + 1, by omega, by go_num, by rw [Hs'.out], Hv'⟩
              case measure => simp [intOf]; omega
          · have hvz' : valid z = false := by simpa using hvz
            have hb := valid_false.1 hvz'
            have HS : Hid (vWeights zs = false) := weights_false hlt (by rw [Hz.out]; omega)
            clear hvz hb
            go_wp2_with (go_at_call 21; refine (rvalid_no _ _ hvz').mono ?_; rintro e w' ⟨rfl, rfl⟩)
            go_ret
            exact ⟨by rw [HS.out]; rfl, rfl⟩
    · have e : k = zs.length := by omega
      subst e
      have HS : Hid (vWeights zs = some0 zs zs.length) := weights_some Hv.out
      go_wp2
      go_ret
      exact ⟨by rw [HS.out]; rfl, rfl⟩
end Go.Proofs.YtdjilieadhnhcaaDoor
