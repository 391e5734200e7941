/-
  The document's own joined text of layer 3, the starts of chains, and the law's own indices.
-/
import Derived.Test.YtimiminkeencgaaDoorRefJoined3
namespace Go.Proofs.YtimiminkeencgaaDoor
open Go.RowKit Go.Sort Foyer.Digest Foyer.Sign

set_option maxRecDepth 100000 in
set_option maxHeartbeats 2000000 in
theorem qjoined_any (ls : List (List UInt8)) (p : Option Addr) (cap : Nat) (w : World) (hr : RdS w p ls) (hl : ls.length ≤ 1000) (ht : ∀ t ∈ ls, t.length ≤ 1000000) :
    Calls Tryd.prog 24 #[.slice p ls.length cap] w fun e w' => e = .returned (.string ⟨(joined ls).toArray⟩) ∧ ∃ q, w' = w.drewN q := by
  have HR := Lib.hid hr; clear hr
  have HJ := Lib.hid (joined_take_length ls ht)
  have HTL : Hid (∀ k, k < ls.length → (ls.getD k []).length ≤ 1000000) := fun k hk => by
    rw [List.getD_eq_getElem?_getD, List.getElem?_eq_getElem hk]; exact ht _ (List.getElem_mem hk)
  clear ht
  go_enter Tryd.func24, Tryd.ntmps24
  go_wp2
  go_loopw [3, 4] (fun s i wr => ∃ k q : Nat, k ≤ ls.length ∧ i = .int .i64 k ∧ s = .string ⟨(joined (ls.take k)).toArray⟩ ∧ wr = w.drewN q) (fun _ i _ => ls.length - (intOf i).toNat)
  case atStart => exact ⟨0, 0, Nat.zero_le _, rfl, rfl, rfl⟩
  case round =>
    obtain ⟨k, q, hk, rfl, rfl, rfl⟩ := hrel
    by_cases hlt : k < ls.length
    · have hnx := joined_take_succ ls k hlt
      have hjl := HJ.out k hk
      have htl := HTL.out k hlt
      rcases HR.out with e | ⟨b, off, rfl, _, hc⟩
      · rw [e] at hlt; simp at hlt
      · have hck := hc k hlt
        clear hc
        generalize ls.getD k [] = t at *
        have hlen : (⟨t.toArray⟩ : ByteArray).size = t.length := size_of_list _
        have hdl := dec_length t.length
        have hdl2 := nDigits_le 6 t.length (by have : (10 : Nat) ^ (6 + 1) = 10000000 := by decide
                                               omega)
        have hdec := fun W => decimal_any t.length htl W
        have hd7 : (Lib.decDigits t.length).length ≤ 7 := by omega
        have hj2 : (joined (ls.take k)).length ≤ 1000010000 := by
          have : 1000010 * k ≤ 1000010 * 1000 := Nat.mul_le_mul_left _ (by omega)
          omega
        obtain ⟨W, hW⟩ : ∃ W, w.drewN q = W := ⟨_, rfl⟩
        have hckW : W.cell? ⟨b, off + k, none⟩ = some (.string ⟨t.toArray⟩) := by rw [← hW]; exact hck
        have HW := Lib.hid hW
        rw [hW]
        clear hW hck
        have hdq : ∀ n, Calls Tryd.prog 40 #[.int .i64 t.length] (W.drewN n) fun e w'' => e = .returned (.string ⟨(Lib.decDigits t.length).toArray⟩) ∧ ∃ m, w'' = W.drewN m := fun n =>
          (hdec _).mono fun e w'' ⟨he, m, hm⟩ => ⟨he, n + m, by rw [hm, World.drewN_drewN]⟩
        have HDEC := Lib.hid hdq
        clear hdec hdq hdl hdl2 hjl
        generalize joined (ls.take k) = j at *
        generalize Lib.decDigits t.length = d at *
        generalize hjn : joined (ls.take (k + 1)) = jn at *
        have HJN := Lib.hid hjn; clear hjn
        have happ : (⟨j.toArray⟩ : ByteArray) ++ ⟨d.toArray⟩ ++ ⟨#[58]⟩ ++ ⟨t.toArray⟩ = ⟨jn.toArray⟩ := by
          have e : (⟨#[58]⟩ : ByteArray) = ⟨([58] : List UInt8).toArray⟩ := rfl
          rw [e, str_append, str_append, str_append, hnx]
          simp
        have HAPP := Lib.hid happ
        clear hnx happ
        have hjs : (⟨j.toArray⟩ : ByteArray).size = j.length := size_of_list _
        have hds : (⟨d.toArray⟩ : ByteArray).size = d.length := size_of_list _
        go_wp2
        have happ := HAPP.out
        go_quiet (first | with_reducible exact HDEC.out _)
        clear happ
        go_wp2
        go_roundw
        case rel => exact ⟨k + 1, q + nq, by omega, by go_num, by rw [HJN.out], by rw [← HW.out, World.drewN_drewN]⟩
        case measure => simp [intOf]; omega
    · have hE : joined (ls.take k) = joined ls := by rw [List.take_of_length_le (by omega)]
      rw [hE]
      clear hE
      generalize hjs : joined ls = js at *
      have HJS := Lib.hid hjs; clear hjs
      go_wp2
      go_ret
      exact ⟨by rw [HJS.out]; rfl, q, rfl⟩
theorem qjoined_c (ls : List (List UInt8)) (m : List UInt8) (k : Nat) (hk : ls.length = k) (h : joined ls = m) (p : Option Addr) (cap : Nat) (w : World) (hr : RdS w p ls) (hl : k ≤ 1000) (ht : ∀ t ∈ ls, t.length ≤ 1000000) :
    Calls Tryd.prog 24 #[.slice p k cap] w fun e w' => e = .returned (.string ⟨m.toArray⟩) ∧ Below w.heap.size w w' := by
  rw [← h, ← hk]
  exact (qjoined_any ls p cap w hr (by omega) ht).mono fun e w' ⟨he, q, hq⟩ => ⟨he, by rw [hq]; exact below_drewN (Below.refl _ _) q⟩

/-! ### Starts -/
set_option maxHeartbeats 1000000 in
theorem qstart_any (s : List UInt8) (i : Nat) (hi : i ≤ 99) (hs : s.length ≤ 1000) (r : List UInt8) (hr : startOf s i = r) (w : World) :
    Calls Tryd.prog 30 #[.string ⟨s.toArray⟩, .int .i64 i] w fun e w' => e = .returned (.string ⟨r.toArray⟩) ∧ Below w.heap.size w w' := by
  have hn := number_any i hi w
  obtain ⟨d, hd⟩ : ∃ d, Lib.decDigits i = d := ⟨_, rfl⟩
  have hls : listSum [s, d] = r := by rw [← hr, ← hd]; rfl
  have hdl : d.length ≤ 1000 := by
    have h1 := dec_length i
    have h2 := nDigits_le 1 i (by have : (10 : Nat) ^ (1 + 1) = 100 := by decide
                                  omega)
    rw [← hd]; omega
  rw [hd] at hn
  have HN := Lib.hid hn; have HLS := Lib.hid hls; have HDL := Lib.hid hdl; have HSL := Lib.hid hs
  clear hn hls hdl hs hd hr
  go_enter Tryd.func30, Tryd.ntmps30
  go_wp2_with fail
  refine (HN.out).mono ?_; rintro e w1 ⟨rfl, q, rfl⟩
  go_wp2_with fail
  refine (rlist_c [s, d] r 2 rfl HLS.out _ _ _ (rd_two _ _ _ _) (by decide) ?_).mono ?_
  · intro t ht
    have h1 := HSL.out; have h2 := HDL.out
    simp only [List.mem_cons, List.not_mem_nil, or_false] at ht
    rcases ht with rfl | rfl <;> omega
  rintro e w2 ⟨rfl, hb2⟩
  have HB : Hid (Below w.heap.size w w2) := below_trans ((below_drewN (Below.refl w.heap.size w) q).alloc (Nat.le_refl _) _) (Nat.le_refl _) hb2
  clear hb2
  go_wp2
  go_ret
  exact ⟨rfl, HB.out⟩

/-! ### Indices -/
theorem index_table (i : Nat) (hi : i < 18) : (#[.string ⟨#[48]⟩, .string ⟨#[49]⟩, .string ⟨#[50]⟩, .string ⟨#[51]⟩, .string ⟨#[52]⟩, .string ⟨#[53]⟩, .string ⟨#[54]⟩, .string ⟨#[55]⟩, .string ⟨#[56]⟩, .string ⟨#[57]⟩, .string ⟨#[49, 48]⟩, .string ⟨#[49, 49]⟩, .string ⟨#[49, 50]⟩, .string ⟨#[49, 51]⟩, .string ⟨#[49, 52]⟩, .string ⟨#[49, 53]⟩, .string ⟨#[49, 54]⟩, .string ⟨#[49, 55]⟩] : Array Value)[i]? = some (.string ⟨(Lib.decDigits i).toArray⟩) := by
  by_cases h10 : i < 10
  · rw [dec_small h10]
    match i, h10 with
    | 0, _ => rfl
    | 1, _ => rfl
    | 2, _ => rfl
    | 3, _ => rfl
    | 4, _ => rfl
    | 5, _ => rfl
    | 6, _ => rfl
    | 7, _ => rfl
    | 8, _ => rfl
    | 9, _ => rfl
  · obtain ⟨j, rfl⟩ : ∃ j, i = 10 + j := ⟨i - 10, by omega⟩
    have hj : j < 8 := by omega
    rw [dec_big (by omega), show (10 + j) / 10 = 1 by omega, show (10 + j) % 10 = j by omega, dec_small (by decide)]
    match j, hj with
    | 0, _ => rfl
    | 1, _ => rfl
    | 2, _ => rfl
    | 3, _ => rfl
    | 4, _ => rfl
    | 5, _ => rfl
    | 6, _ => rfl
    | 7, _ => rfl
theorem index_any (i : Nat) (hi : i < 18) (w : World) :
    Calls Tryd.prog 39 #[.int .i64 i] w fun e w' => e = .returned (.string ⟨(Lib.decDigits i).toArray⟩) ∧ Below w.heap.size w w' := by
  have ht := index_table i hi
  generalize Lib.decDigits i = d at *
  go_enter Tryd.func39, Tryd.ntmps39
  go_wp2
  go_ret
  refine ⟨congrArg Ending.returned ?_, (Below.refl _ _).alloc (Nat.le_refl _) _⟩
  have h2 := ht
  simp [hi] at h2
  exact h2
end Go.Proofs.YtimiminkeencgaaDoor
