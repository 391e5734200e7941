/-
  The walks of Public and of Sign.
-/
import Derived.Test.YtimiminkeencgaaDoorWalkArray
namespace Go.Proofs.YtimiminkeencgaaDoor
open Go.RowKit Go.Sort Foyer.Digest Foyer.Sign

/-- An array of eighteen strings, the first k of which are written. -/
def RowS (w : World) (b k : Nat) (f : Nat → List UInt8) : Prop :=
  ∀ j, j < 18 → w.cell? ⟨b, j, none⟩ = some (.string ⟨(if j < k then f j else []).toArray⟩) ∧ w.frozen? ⟨b, j, none⟩ = false
theorem rowS_fresh (w : World) (t : TypeId) (f : Nat → List UInt8) : RowS (w.alloc (.cells (Array.replicate 18 (.string ⟨#[]⟩)) t)) w.heap.size 0 f := fun j hj => by
  have := cell_fresh w 18 (.string ⟨#[]⟩) t j hj
  rw [if_neg (by omega)]; exact this
theorem RowS.below {w w' : World} {b k : Nat} {f : Nat → List UInt8} (h : RowS w b k f) (hb : Below w.heap.size w w') : RowS w' b k f := fun j hj => by
  obtain ⟨h1, h2⟩ := h j hj
  have hlt := lt_of_cell h1
  exact ⟨(hb.cell hlt).trans h1, (World.frozen?_of_block (hb.block _ hlt)).trans h2⟩
theorem RowS.set {w : World} {b k : Nat} {f : Nat → List UInt8} (h : RowS w b k f) (hk : k < 18) : RowS (w.setCell ⟨b, k, none⟩ (.string ⟨(f k).toArray⟩)) b (k + 1) f := fun j hj => by
  obtain ⟨h1, h2⟩ := h j hj
  refine ⟨?_, by rw [World.frozen?_setCell]; exact h2⟩
  by_cases e : j = k
  · subst e
    rw [if_pos (by omega)]
    exact World.cell?_setCell_same _ _ _ h1
  · rw [World.cell?_setCell_other _ _ _ _ (by intro h; injection h with _ h' _; exact e h'.symm), h1]
    by_cases h3 : j < k
    · rw [if_pos h3, if_pos (by omega)]
    · rw [if_neg h3, if_neg (by omega)]
theorem RowS.rd {w : World} {b : Nat} {f : Nat → List UInt8} (h : RowS w b 18 f) : RdS w (some ⟨b, 0, none⟩) ((List.range 18).map f) := by
  refine Or.inr ⟨b, 0, rfl, lt_of_cell (h 0 (by decide)).1, fun j hj => ?_⟩
  have hj : j < 18 := by simpa using hj
  rw [Nat.zero_add, (h j hj).1, if_pos hj, range_at _ _ _ _ hj]
theorem range18_length {α : Type} (f : Nat → α) : ((List.range 18).map f).length = 18 := by simp

theorem chainsOf_c (s : ByteArray) (w : World) :
    Calls Tryd.prog 27 #[.string s] w fun e w' => ∃ b, e = .returned (.func (.func 42) #[] #[.pointer (some ⟨b, 0, none⟩)]) ∧ w'.cell? ⟨b, 0, none⟩ = some (.string s) ∧ Below w.heap.size w w' :=
  (chainsOf_any s w).mono fun e w' ⟨he, hw⟩ => ⟨w.heap.size, he, by rw [hw]; simp, by rw [hw]; exact (Below.refl _ _).alloc (Nat.le_refl _) _⟩

theorem e18s : (#[.string ⟨#[]⟩, .string ⟨#[]⟩, .string ⟨#[]⟩, .string ⟨#[]⟩, .string ⟨#[]⟩, .string ⟨#[]⟩, .string ⟨#[]⟩, .string ⟨#[]⟩, .string ⟨#[]⟩, .string ⟨#[]⟩, .string ⟨#[]⟩, .string ⟨#[]⟩, .string ⟨#[]⟩, .string ⟨#[]⟩, .string ⟨#[]⟩, .string ⟨#[]⟩, .string ⟨#[]⟩, .string ⟨#[]⟩] : Array Value) = Array.replicate 18 (.string ⟨#[]⟩) := rfl
theorem endAt_length (s : List UInt8) (i : Nat) : (endAt s i).length = 16 := isDigest_length (chain_of_digest (startOf_isDigest s i) _)
theorem sigAt_length (s m : List UInt8) (i : Nat) : (sigAt s m i).length = 16 := isDigest_length (chain_of_digest (startOf_isDigest s i) _)

set_option maxRecDepth 100000 in
set_option maxHeartbeats 1000000 in
theorem public_any (s : List UInt8) (hs : s.length ≤ 1000) (m : List UInt8) (hm : pub s = m) (w : World) (hE : Env w) :
    Calls Tryd.prog 11 #[.string ⟨s.toArray⟩] w fun e w' => e = .returned (.string ⟨m.toArray⟩) ∧ Below w.heap.size w w' := by
  have HE := Lib.hid hE; clear hE
  have hml : listSum ((List.range 18).map (endAt s)) = m := hm
  have HM := Lib.hid hml; have HSL := Lib.hid hs
  have HEL : Hid (∀ t ∈ (List.range 18).map (endAt s), t.length ≤ 1000000) := fun t ht => by
    obtain ⟨i, _, rfl⟩ := List.mem_map.1 ht
    rw [endAt_length]; omega
  clear hm hml hs
  go_enter Tryd.func11, Tryd.ntmps11
  go_wp2_with fail
  refine (chainsOf_c _ _).mono ?_; rintro e W1 ⟨b, rfl, hc, hb⟩
  have HC := Lib.hid hc; have HB1 := Lib.hid hb; clear hc hb
  go_wp2
  rw [e18s]
  go_loopw [8] (fun i wr => ∃ k : Nat, k ≤ 18 ∧ i = .int .i64 k ∧ Hid (RowS wr W1.heap.size k (endAt s)) ∧ Hid (Below W1.heap.size W1 wr)) (fun i _ => 18 - (intOf i).toNat)
  case atStart => exact ⟨0, Nat.zero_le _, rfl, Lib.hid (rowS_fresh _ _ _), Lib.hid ((Below.refl _ _).alloc (Nat.le_refl _) _)⟩
  case round =>
    obtain ⟨k, hk, rfl, HR, HB⟩ := hrel
    by_cases hlt : k < 18
    · have hset := fun W (h : RowS W W1.heap.size k (endAt s)) => RowS.set h hlt
      have HSET := Lib.hid hset; clear hset
      have hr : chain (startOf s k) 15 = endAt s k := rfl
      generalize endAt s k = r at *
      have HRR := Lib.hid hr; clear hr
      go_wp2_with fail
      refine (walk_any s HSL.out k 15 hlt (by omega) r HRR.out b _ ((HB.out.cell (lt_of_cell HC.out)).trans HC.out) (HE.out.below (HB1.out.trans (HB.out.mono HB1.out.size)))).mono ?_; rintro e W2 ⟨rfl, hb2⟩
      have hrow := HR.out.below hb2
      have HR2 := Lib.hid hrow
      have HB2 := Lib.hid (HB.out.trans (hb2.mono HB.out.size))
      obtain ⟨hc2, hf2⟩ := hrow k hlt
      clear hrow hb2
      go_wp2
      go_roundw
      case rel => exact ⟨k + 1, by omega, by go_num, Lib.hid (HSET.out _ HR2.out), Lib.hid (HB2.out.setCell (p := ⟨W1.heap.size, k, none⟩) (Nat.le_refl _) _)⟩
      case measure => simp [intOf]; omega
    · obtain rfl : k = 18 := by omega
      go_wp2_with fail
      refine (list_c ((List.range 18).map (endAt s)) m 18 (range18_length _) HM.out _ _ _ HR.out.rd (by decide) HEL.out (HE.out.below (HB1.out.trans (HB.out.mono HB1.out.size)))).mono ?_; rintro e W2 ⟨rfl, hb2⟩
      have HB2 := Lib.hid (HB1.out.trans ((HB.out.trans (hb2.mono HB.out.size)).mono HB1.out.size)); clear hb2
      go_wp2
      go_ret
      exact ⟨rfl, HB2.out⟩
end Go.Proofs.YtimiminkeencgaaDoor
