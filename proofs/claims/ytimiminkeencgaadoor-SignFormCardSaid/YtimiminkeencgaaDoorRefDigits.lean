/-
  The document's own digits of a digest.
-/
import Derived.Test.YtimiminkeencgaaDoorWalkVerify
import Derived.OwnWalk
namespace Go.Proofs.YtimiminkeencgaaDoor
open Go.RowKit Go.Sort Foyer.Digest Foyer.Sign

theorem qhex_low (c : Nat) (w : World) (h1 : 48 ≤ c) (h2 : c ≤ 57) :
    Calls Tryd.prog 41 #[.int .u8 c] w fun e w' => e = .returned (.int .i64 ((c : Int) - 48)) ∧ w = w' := by
  have h3 : decide (97 ≤ (c : Int)) = false := by simp; omega
  go_enter Tryd.func41, Tryd.ntmps41
  go_wp2
  go_ret
  exact ⟨rfl, rfl⟩
theorem qhex_high (c : Nat) (w : World) (h1 : 97 ≤ c) (h2 : c ≤ 102) :
    Calls Tryd.prog 41 #[.int .u8 c] w fun e w' => e = .returned (.int .i64 ((c : Int) - 97 + 10)) ∧ w = w' := by
  go_enter Tryd.func41, Tryd.ntmps41
  go_wp2
  go_ret
  exact ⟨rfl, rfl⟩
theorem qhex_any (c : UInt8) (d : Nat) (h : isHex c = true) (hd : unhex c = d) (w : World) :
    Calls Tryd.prog 41 #[.int .u8 c.toNat] w fun e w' => e = .returned (.int .i64 d) ∧ w = w' := by
  subst hd
  rcases (isHex_iff c).1 h with ⟨h1, h2⟩ | ⟨h1, h2⟩
  · have : ((unhex c : Nat) : Int) = (c.toNat : Int) - 48 := by unfold unhex; rw [if_pos h2]; omega
    rw [this]; exact qhex_low _ w h1 h2
  · have : ((unhex c : Nat) : Int) = (c.toNat : Int) - 97 + 10 := by unfold unhex; rw [if_neg (by omega)]; omega
    rw [this]; exact qhex_high _ w h1 h2

theorem intInfo : (Tryd.prog.info? 3).map (fun i => (i.zero, i.size, i.bytes)) = some (some (.int .i64 0), 1, 8) := by kernel_rfl
/-- A list of numbers that is read. -/
def RdN (w : World) (p : Option Addr) (ds : List Nat) : Prop := ∃ b, p = some ⟨b, 0, none⟩ ∧ b < w.heap.size ∧ ∀ j, j < ds.length → w.cell? ⟨b, j, none⟩ = some (.int .i64 (ds.getD j 0 : Nat))
theorem RdN.below {w w' : World} {p : Option Addr} {ds : List Nat} (h : RdN w p ds) (hb : Below w.heap.size w w') : RdN w' p ds := by
  obtain ⟨b, rfl, hlt, hc⟩ := h
  exact ⟨b, rfl, Nat.lt_of_lt_of_le hlt hb.size, fun j hj => by rw [hb.cell hlt]; exact hc j hj⟩
theorem rest_step (S : List UInt8) (k : Nat) (hk : k < S.length) : rest ((S.map unhex).take (k + 1)) = rest ((S.map unhex).take k) + (15 - unhex S[k]) := by
  rw [rest_take_succ _ k (by rw [List.length_map]; exact hk), List.getElem_map]

set_option maxRecDepth 100000 in
set_option maxHeartbeats 1000000 in
theorem qdigits_any (S : List UInt8) (h16 : S.length = 16) (hall : S.all isHex = true) (w : World) :
    Calls Tryd.prog 26 #[.string ⟨S.toArray⟩] w fun e w' => ∃ p cap, e = .returned (.slice p 18 cap) ∧ RdN w' p (digits S) ∧ Below w.heap.size w w' := by
  obtain ⟨i0, hi, hz0, hz1, hz2⟩ := info_parts intInfo
  obtain ⟨t, ht⟩ : ∃ t : ByteArray, (⟨S.toArray⟩ : ByteArray) = t := ⟨_, rfl⟩
  have ht16 : t.size = 16 := by rw [← ht, size_of_list]; exact h16
  have hdig : ∀ k (h : k < t.size), isHex t[k] = true ∧ unhex t[k] ≤ 15 ∧ (S.map unhex).take (k + 1) = (S.map unhex).take k ++ [unhex t[k]] ∧ rest ((S.map unhex).take (k + 1)) = rest ((S.map unhex).take k) + (15 - unhex t[k]) := fun k h => by
    have hkS : k < S.length := by omega
    have e : t[k] = S[k] := by subst ht; rfl
    have hx : isHex S[k] = true := List.all_eq_true.1 hall _ (List.getElem_mem hkS)
    rw [e]
    refine ⟨hx, by have := unhex_lt hx; omega, ?_, rest_step S k hkS⟩
    rw [List.take_succ_eq_append_getElem (by rw [List.length_map]; exact hkS), List.getElem_map]
  have hml : (S.map unhex).length = 16 := by rw [List.length_map, h16]
  have hfin : digits S = S.map unhex ++ [rest (S.map unhex) / 16, rest (S.map unhex) % 16] := rfl
  have HDIG := Lib.hid hdig; have HFIN := Lib.hid hfin; have HML := Lib.hid hml; have HSL := Lib.hid h16
  have HZ0 := Lib.hid hz0; have HZ1 := Lib.hid hz1; have HZ2 := Lib.hid hz2; have HI := Lib.hid hi
  rw [ht]
  clear hdig hfin hz0 hz1 hz2 hi hall h16 ht hml
  go_enter Tryd.func26, Tryd.ntmps26
  go_wp2
  go_loopw [3, 4, 5] (fun v c i wr => ∃ (k n : Nat) (z : Value), k ≤ 16 ∧ n ≤ 15 * k ∧ i = .int .i64 k ∧ c = .int .i64 n ∧ z = v ∧ Hid (n = rest ((S.map unhex).take k)) ∧ Hid (wr.ownsRow w.heap.size 3 1 z k (((S.map unhex).take k).map fun d => Value.int .i64 (d : Nat))) ∧ Hid (Below w.heap.size w wr)) (fun _ _ i _ => 16 - (intOf i).toNat)
  case atStart => exact ⟨0, 0, _, by omega, by omega, rfl, rfl, rfl, Lib.hid rfl, Lib.hid (World.ownsRow_nil w _ _ 1), Lib.hid (Below.refl _ _)⟩
  case round =>
    obtain ⟨k, n, z, hk, hn, rfl, rfl, rfl, HN, HO, HB⟩ := hrel
    by_cases hlt : k < 16
    · obtain ⟨hhex, hle, htk, hrs⟩ := HDIG.out k (by omega)
      have hkt : k < t.size := by omega
      obtain ⟨d, hd⟩ : ∃ d, unhex t[k] = d := ⟨_, rfl⟩
      have hdv := fun W => qhex_any t[k] d hhex hd W
      rw [hd] at hle htk hrs
      have HDV := Lib.hid hdv; have HTK := Lib.hid htk; have HRS := Lib.hid hrs
      clear hdv htk hrs hd hhex
      go_wp2_with fail
      refine (HDV.out _).mono ?_; rintro e w' ⟨rfl, rfl⟩
      go_wp2_with (at_builtin; refine wpList_append_own _ rfl _ _ 39 rfl w.heap.size 3 i0 (.int .i64 0) 1 8 Tryd.underlying39 HI.out HZ0.out HZ1.out HZ2.out rfl (by decide) _ _ _ rfl (HO.out.alloc _) ⟨wr.heap.size, 0, none⟩ 1 1 [.int .i64 d] rfl rfl ?c1 ?c2 ?d3 ?d4 ?d5 ?_)
      case c1 =>
        intro q u hq
        match q, hq with
        | 0, hq => simp at hq; subst hq; simp [Addr.add]
      case c2 => intro u hu; simp at hu; subst hu; rfl
      case d3 => unfold maxLen; omega
      case d4 => omega
      case d5 => have := HB.out.size; simp; omega
      intro v2 w2 hown2 hgrow2 _
      have HB2 : Hid (Below w.heap.size w w2) := (HB.out.alloc HB.out.size _).grown hgrow2 (by have := HB.out.size; simp; omega) (fun q hq => (HO.out.lt q hq).1)
      have HO2 : Hid (w2.ownsRow w.heap.size 3 1 v2 (k + 1) (((S.map unhex).take (k + 1)).map fun d => Value.int .i64 (d : Nat))) :=
        own_cast hown2 rfl (by rw [HTK.out, List.map_append]; simp)
      clear hown2 hgrow2
      go_wp2
      go_roundw
      case rel => exact ⟨k + 1, n + (15 - d), v2, by omega, by omega, by go_num, by go_num, rfl, Lib.hid (by rw [HRS.out, ← HN.out]), HO2, HB2⟩
      case measure => simp [intOf]; omega
    · obtain rfl : k = 16 := by omega
      go_wp2_with (at_builtin; refine wpList_append_own _ rfl _ _ 39 rfl w.heap.size 3 i0 (.int .i64 0) 1 8 Tryd.underlying39 HI.out HZ0.out HZ1.out HZ2.out rfl (by decide) _ _ _ rfl (HO.out.alloc _) ⟨wr.heap.size, 0, none⟩ 2 2 [.int .i64 ((n : Int) / 16), .int .i64 ((n : Int) % 16)] rfl rfl ?c1 ?c2 ?d3 ?d4 ?d5 ?_)
      case c1 =>
        intro q u hq
        match q, hq with
        | 0, hq => simp at hq; subst hq; simp [Addr.add]
        | 1, hq => simp at hq; subst hq; simp [Addr.add]
      case c2 => intro u hu; simp at hu; rcases hu with rfl | rfl <;> rfl
      case d3 => unfold maxLen; omega
      case d4 => omega
      case d5 => have := HB.out.size; simp; omega
      intro v2 w2 hown2 hgrow2 _
      have HB2 : Hid (Below w.heap.size w w2) := (HB.out.alloc HB.out.size _).grown hgrow2 (by have := HB.out.size; simp; omega) (fun q hq => (HO.out.lt q hq).1)
      have hcast : w2.ownsRow w.heap.size 3 1 v2 18 ((digits S).map fun d => Value.int .i64 (d : Nat)) :=
        own_cast hown2 rfl (by
          have hS := HSL.out
          have e : (S.map unhex).take 16 = S.map unhex := List.take_of_length_le (by rw [HML.out]; omega)
          have hn := HN.out
          rw [e] at hn
          rw [HFIN.out, ← hn, List.map_append]
          simp [List.take_of_length_le, hS])
      have hdl : (digits S).length = 18 := by rw [HFIN.out, List.length_append, HML.out]; rfl
      clear hown2 hgrow2
      go_wp2
      go_ret
      rcases hcast.2 with ⟨_, h0⟩ | ⟨g, cap, cur, rfl, hg⟩
      · exact absurd h0 (by decide)
      · refine ⟨some ⟨g, 0, none⟩, cap, rfl, ⟨g, rfl, (hcast.lt _ rfl).2, fun j hj => ?_⟩, HB2.out⟩
        rw [World.ownsRow.cellAt hcast j (by omega), List.getElem?_map, List.getElem?_eq_getElem hj]
        simp [List.getD_eq_getElem?_getD, hj]
end Go.Proofs.YtimiminkeencgaaDoor
