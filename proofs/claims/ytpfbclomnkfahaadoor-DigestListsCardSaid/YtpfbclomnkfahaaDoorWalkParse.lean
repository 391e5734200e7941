/-
  The walks of reading fifteen hexadecimal digits, and of Below.
-/
import Derived.Test.YtpfbclomnkfahaaDoorWalkIs
import Derived.Lib.ConvBytes
import Derived.BigCall
import Derived.BigGuard
import Derived.IntWalk
namespace Go.Proofs.YtpfbclomnkfahaaDoor
open Go.RowKit Foyer.Digest

theorem low_hex : ∀ n : Fin 256, 97 ≤ n.val ∧ n.val ≤ 102 → bits .or .u8 (n.val : Int) 32 = (n.val : Int) := by decide +kernel
theorem lower_hex (c : Nat) (w : World) (h1 : 97 ≤ c) (h2 : c ≤ 102) :
    Calls Tryd.prog 44 #[.int .u8 c] w fun e w' => e = .returned (.int .u8 c) ∧ w = w' := by
  have hb := low_hex ⟨c, by omega⟩ ⟨h1, h2⟩
  simp only at hb
  go_enter Tryd.func44, Tryd.ntmps44
  go_wp2
  go_ret
  exact ⟨rfl, rfl⟩

theorem bytesWorld_below (w : World) (e : TypeId) (s : ByteArray) : Below w.heap.size w (Lib.bytesWorld w e s) :=
  ⟨by simp [Lib.bytesWorld, World.freeze, World.alloc, World.drew, -World.alloc_eq, -World.drew_eq], by simp [Lib.bytesWorld, World.freeze, World.alloc, World.drew, -World.alloc_eq, -World.drew_eq], by simp [Lib.bytesWorld, World.freeze, World.alloc, World.drew, -World.alloc_eq, -World.drew_eq], by rw [Lib.bytesWorld_size]; omega, fun j hj => Lib.bytesWorld_at_old w e s j hj⟩

theorem num_take_succ {u : List UInt8} {k : Nat} (h : k < u.length) : num (u.take (k + 1)) = num (u.take k) * 16 + unhex u[k] := by
  rw [List.take_succ_eq_append_getElem h, num_snoc]
theorem num_take_bound {u : List UInt8} (ha : u.all isHex = true) {k : Nat} (hk : k ≤ 14) (hl : k ≤ u.length) : num (u.take k) ≤ 72057594037927935 := by
  have h1 := num_lt k (u.take k) (by rw [List.length_take]; omega) (List.all_eq_true.2 fun x hx => List.all_eq_true.1 ha x (List.mem_of_mem_take hx))
  have h2 : 16 ^ k ≤ 16 ^ 14 := Nat.pow_le_pow_right (by decide) hk
  have h3 : (16 : Nat) ^ 14 = 72057594037927936 := by decide
  omega

set_option maxHeartbeats 4000000 in
set_option maxRecDepth 100000 in
theorem iparse_any (t : ByteArray) (h15 : t.size = 15) (ha : t.data.toList.all isHex = true) (w : World) :
    Calls Tryd.prog 39 #[.string t, .int .i64 16, .int .i64 64] w fun e w' => e = .returned (.tuple #[.int .u64 (num t.data.toList), Value.nilIface]) ∧ Below w.heap.size w w' := by
  have hemp : t.toList.isEmpty = false := by
    rw [← decide_eq_emptyBytes]
    exact decide_eq_false (fun h => by rw [h] at h15; exact absurd h15 (by decide))
  have hcv := Lib.run_convert_string_bytes (P := Tryd.prog) w 9 46 5 t (u := .string) Tryd.underlying9 Tryd.underlying46 Tryd.underlying5
  have hB : ∀ j, j < t.size → (Lib.bytesWorld w 5 t).cell? ⟨w.heap.size, j, none⟩ = some (.int .u8 (t.data.toList.getD j 0).toNat) := fun j hj => Lib.bytesWorld_cell w 5 t j hj
  have hbel := bytesWorld_below w 5 t
  obtain ⟨W1, hW1⟩ : ∃ W1, W1 = Lib.bytesWorld w 5 t := ⟨_, rfl⟩
  rw [← hW1] at hcv hB hbel
  clear hW1
  obtain ⟨u, hu⟩ : ∃ u, u = t.data.toList := ⟨_, rfl⟩
  have hlen : u.length = 15 := by rw [hu]; simpa using h15
  rw [← hu] at hB ha ⊢
  clear hu
  have hsz1 : 15 ≤ t.size := by omega
  have hsz2 : t.size ≤ 15 := by omega
  have HB := Lib.hid hB; have HA := Lib.hid ha; have HBE := Lib.hid hbel; have HL := Lib.hid hlen; have H15 := Lib.hid h15
  clear hB ha hbel hlen h15
  have hmv : IntKind.u64.wrap (IntKind.u64.wrap 18446744073709551616 - 1) = 18446744073709551615 := by
    rw [IntKind.wrap_u64, IntKind.wrap_u64]
    decide
  go_enter Tryd.func39, Tryd.ntmps39
  go_wp2
  go_loop [12, 13, 101] (fun vu vn vi => ∃ (k : Nat) (a : Int), vu = .bool false ∧ vn = .int .u64 a ∧ vi = .int .i64 k ∧ k ≤ t.size ∧ Hid (a = (num (u.take k) : Nat))) (fun _ _ vi => t.size - (intOf vi).toNat)
  case atStart => exact ⟨0, 0, rfl, rfl, rfl, by omega, Lib.hid rfl⟩
  case round =>
    obtain ⟨k, a, rfl, rfl, rfl, hk, HK⟩ := hrel
    by_cases hkn : k < t.size
    · have hc := HB.out k hkn
      have hkl : k < u.length := by rw [HL.out]; omega
      have hget : u.getD k 0 = u[k] := by simp [List.getD, List.getElem?_eq_getElem hkl]
      have hhex : isHex u[k] = true := List.all_eq_true.1 HA.out _ (List.getElem_mem hkl)
      have hns := num_take_succ hkl
      have hbd := num_take_bound HA.out (k := k) (by omega) (by omega)
      rw [hget] at hc
      generalize u[k] = c at hc hhex hns
      have hi := (isHex_iff c).1 hhex
      have a0 : 0 ≤ a := by rw [HK.out]; omega
      have a1 : a ≤ 72057594037927935 := by rw [HK.out]; omega
      have hns' : ((num (u.take (k + 1)) : Nat) : Int) = a * 16 + (unhex c : Nat) := by rw [hns, HK.out]; omega
      clear hbd hget hns hhex hkl
      rcases hi with ⟨g1, g2⟩ | ⟨g1, g2⟩
      · have hun : unhex c = c.toNat - 48 := by unfold unhex; rw [if_pos g2]
        have HN : Hid (a * 16 + ((c.toNat : Int) - 48) = ((num (u.take (k + 1)) : Nat) : Int)) := by show _ = _; rw [hns', hun]; omega
        clear hns' hun HK
        generalize c.toNat = cn at *
        go_wp2
        refine ⟨⟨k + 1, _, rfl, rfl, by go_num, by omega, HN⟩, by simp [intOf]; omega⟩
      · have hun : unhex c = c.toNat - 87 := by unfold unhex; rw [if_neg (by omega)]
        have HN : Hid (a * 16 + ((c.toNat : Int) - 97 + 10) = ((num (u.take (k + 1)) : Nat) : Int)) := by show _ = _; rw [hns', hun]; omega
        clear hns' hun HK
        generalize c.toNat = cn at *
        go_wp2_with (go_at_call 44; refine (lower_hex _ _ g1 g2).mono ?_; rintro e w' ⟨rfl, rfl⟩)
        refine ⟨⟨k + 1, _, rfl, rfl, by go_num, by omega, HN⟩, by simp [intOf]; omega⟩
    · have hE : Hid (a = (num u : Nat)) := by
        show a = _
        rw [HK.out, List.take_of_length_le (by rw [HL.out]; omega)]
      go_wp2
      go_ret2
      exact ⟨by rw [← hE.out]; rfl, HBE.out⟩

theorem parse_hex (t : ByteArray) (h15 : t.size = 15) (ha : t.data.toList.all isHex = true) (w : World) :
    Calls Tryd.prog 35 #[.string t, .int .i64 16, .int .i64 64] w fun e w' => e = .returned (.tuple #[.int .u64 (num t.data.toList), Value.nilIface]) ∧ Below w.heap.size w w' := by
  have hc := iparse_any t h15 ha w
  have HC := Lib.hid hc; clear hc h15 ha
  generalize num t.data.toList = n at *
  go_enter Tryd.func35, Tryd.ntmps35
  go_wp2_with fail
  refine (HC.out).mono ?_; rintro e w1 ⟨rfl, hb1⟩
  have HB := Lib.hid hb1; clear hb1
  go_wp2
  go_ret2
  exact ⟨rfl, HB.out⟩

theorem below_no (t : ByteArray) (n : Int) (hn : n < 1) (w : World) :
    Calls Tryd.prog 21 #[.string t, .int .i64 n] w fun e w' => e = .returned (.int .i64 0) ∧ Below w.heap.size w w' := by
  go_enter Tryd.func21, Tryd.ntmps21
  go_wp2
  go_ret
  exact ⟨rfl, Below.refl _ _⟩
theorem below_not (t : ByteArray) (n : Int) (hn : 1 ≤ n) (hs : t.size ≤ 1000000000000) (hd : isDigest t.data.toList = false) (w : World) :
    Calls Tryd.prog 21 #[.string t, .int .i64 n] w fun e w' => e = .returned (.int .i64 0) ∧ Below w.heap.size w w' := by
  have hi := is_any t hs w
  rw [hd] at hi
  have HI := Lib.hid hi; clear hi hd hs
  go_enter Tryd.func21, Tryd.ntmps21
  go_wp2_with fail
  refine (HI.out).mono ?_; rintro e w1 ⟨rfl, rfl⟩
  go_wp2
  go_ret
  exact ⟨rfl, Below.refl _ _⟩
theorem below_yes (t : ByteArray) (n : Int) (hn : 1 ≤ n) (hn2 : n ≤ 9223372036854775807) (hd : isDigest t.data.toList = true) (w : World) :
    Calls Tryd.prog 21 #[.string t, .int .i64 n] w fun e w' => e = .returned (.int .i64 (((num (t.data.toList.take 15) : Nat) : Int) % n)) ∧ Below w.heap.size w w' := by
  have h16 : t.size = 16 := by
    have := hd; unfold isDigest at this
    simp only [Bool.and_eq_true, decide_eq_true_eq] at this
    simpa using this.1
  have hi := is_any t (by omega) w
  rw [hd] at hi
  have he : (t.extract 0 15).data.toList = t.data.toList.take 15 := by
    rw [ByteArray.data_extract]; simp
  have hp := parse_hex (t.extract 0 15) (by simp [h16]) (by rw [he]; exact (take_hex hd).1)
  rw [he] at hp
  have hlt := num_take_lt hd
  have HI := Lib.hid hi; have HP := Lib.hid hp
  have hsz1 : 16 ≤ t.size := by omega
  clear hi hp hd he h16
  generalize num (t.data.toList.take 15) = x at *
  go_enter Tryd.func21, Tryd.ntmps21
  go_wp2_with fail
  refine (HI.out).mono ?_; rintro e w1 ⟨rfl, rfl⟩
  go_wp2_with fail
  refine (HP.out _).mono ?_; rintro e w1 ⟨rfl, hb1⟩
  have HB := Lib.hid hb1; clear hb1
  go_wp2
  go_ret
  have h1 := Int.emod_nonneg (x : Int) (show n ≠ 0 by omega)
  have h2 := Int.emod_lt_of_pos (x : Int) (show 0 < n by omega)
  exact ⟨congrArg (fun z => Ending.returned (Value.int .i64 z)) (IntWalk.wrap64_in ((x : Int) % n) ⟨by omega, by omega⟩), HB.out⟩
theorem below_any (t : ByteArray) (n : Int) (hs : t.size ≤ 1000000000000) (hn2 : n ≤ 9223372036854775807) (w : World) :
    Calls Tryd.prog 21 #[.string t, .int .i64 n] w fun e w' => e = .returned (.int .i64 (below t.data.toList n)) ∧ Below w.heap.size w w' := by
  by_cases hn : n < 1
  · have e : below t.data.toList n = 0 := by unfold below; rw [if_pos hn]
    rw [e]; exact below_no t n hn w
  · cases hd : isDigest t.data.toList
    · have e : below t.data.toList n = 0 := by unfold below; rw [if_neg hn, hd]; rfl
      rw [e]; exact below_not t n (by omega) hs hd w
    · have e : below t.data.toList n = ((num (t.data.toList.take 15) : Nat) : Int) % n := by unfold below; rw [if_neg hn, hd]; rfl
      rw [e]; exact below_yes t n (by omega) hn2 hd w
end Go.Proofs.YtpfbclomnkfahaaDoor
