/-
  The walks of slices.Contains at classes, of the end of parts, of a token.
-/
import Derived.Test.YtlfjdohjfmfcdaaGreatDoorSrc
namespace Go.Proofs.YtlfjdohjfmfcdaaGreatDoor
open Go.RowKit Foyer.Lexer

/-- A slice of classes that is read. -/
def RdN (w : World) (p : Option Addr) (zs : List Nat) : Prop := ∃ b, p = some ⟨b, 0, none⟩ ∧ b < w.heap.size ∧ ∀ j, j < zs.length → w.cell? ⟨b, j, none⟩ = some (.int .i64 (zs.getD j 0 : Nat))
theorem RdN.below {w w' : World} {p : Option Addr} {zs : List Nat} (h : RdN w p zs) (hb : Below w.heap.size w w') : RdN w' p zs := by
  obtain ⟨b, rfl, hlt, hc⟩ := h
  exact ⟨b, rfl, Nat.lt_of_lt_of_le hlt hb.size, fun j hj => by rw [hb.cell (p := ⟨b, j, none⟩) hlt]; exact hc j hj⟩

set_option maxRecDepth 100000 in
set_option maxHeartbeats 1000000 in
theorem index_any (zs : List Nat) (n : Nat) (hn : zs.length = n) (hl : n ≤ 1000) (p : Option Addr) (cap x : Nat) (w : World) (hr : RdN w p zs) :
    Calls Tryz.prog 74 #[.slice p n cap, .int .i64 x] w fun e w' => (∃ i : Int, e = .returned (.int .i64 i) ∧ (decide (0 ≤ i) = zs.contains x)) ∧ w = w' := by
  obtain ⟨b, rfl, hlt, hc⟩ := hr
  have HC := Lib.hid hc
  clear hc
  subst hn
  go_enter Tryz.func74, Tryz.ntmps74
  go_wp2
  go_loopw [8] (fun i wr => ∃ k : Nat, i = .int .i64 k ∧ k ≤ zs.length ∧ w = wr ∧ Hid (∀ j, j < k → zs.getD j 0 ≠ x)) (fun i _ => zs.length - (intOf i).toNat)
  case atStart => exact ⟨0, rfl, by omega, rfl, Lib.hid (fun j hj => by omega)⟩
  case round =>
    obtain ⟨k, rfl, hk, rfl, HN⟩ := hrel
    by_cases hk2 : k < zs.length
    · have hck := HC.out k hk2
      obtain ⟨z, hz⟩ : ∃ z, zs.getD k 0 = z := ⟨_, rfl⟩
      rw [hz] at hck
      by_cases hx : x = z
      · subst hx
        have HZ := Lib.hid hz; clear hz
        go_wp2
        go_ret
        refine ⟨⟨k, rfl, ?_⟩, rfl⟩
        have hm : x ∈ zs := by
          rw [← HZ.out, List.getD_eq_getElem?_getD, List.getElem?_eq_getElem hk2]; exact List.getElem_mem hk2
        simpa using hm
      · have hxx : ¬ (x : Int) = (z : Int) := by omega
        have HZ := Lib.hid hz; clear hz
        go_wp2
        go_roundw
        case rel => exact ⟨k + 1, by go_num, by omega, trivial, Lib.hid (fun j hj => by
          rcases Nat.lt_or_ge j k with h | h
          · exact HN.out j h
          · obtain rfl : j = k := by omega
            rw [HZ.out]; exact fun e => hx e.symm)⟩
        case measure => simp [intOf]; omega
    · go_wp2
      go_ret
      refine ⟨⟨-1, rfl, ?_⟩, rfl⟩
      have hm : ¬ x ∈ zs := fun h => by
        obtain ⟨j, hj, e⟩ := List.getElem_of_mem h
        exact HN.out j (by omega) (by rw [List.getD_eq_getElem?_getD, List.getElem?_eq_getElem hj]; exact e)
      simpa using hm
theorem contains_any (zs : List Nat) (n : Nat) (hn : zs.length = n) (hl : n ≤ 1000) (p : Option Addr) (cap x : Nat) (w : World) (hr : RdN w p zs) :
    Calls Tryz.prog 69 #[.slice p n cap, .int .i64 x] w fun e w' => e = .returned (.bool (zs.contains x)) ∧ w = w' := by
  have HR := Lib.hid hr; clear hr
  go_enter Tryz.func69, Tryz.ntmps69
  go_wp2_with fail
  refine (index_any zs n hn hl p cap x w HR.out).mono ?_; rintro e w1 ⟨⟨i, rfl, hi⟩, rfl⟩
  go_wp2
  go_ret
  exact ⟨by simp, rfl⟩
theorem RdN.drewN {w : World} {p : Option Addr} {zs : List Nat} (h : RdN w p zs) (m : Nat) : RdN (w.drewN m) p zs := h.below (below_drewN (Below.refl _ _) m)

/-- Is a byte of one of some classes? -/
def ofCls (zs : List Nat) (c : UInt8) : Bool := zs.contains (cls c)
set_option maxRecDepth 100000 in
set_option maxHeartbeats 1000000 in
theorem partsEnd_any (t : ByteArray) (ht : t.size ≤ 1000000) (b k : Nat) (hk : k ≤ t.size) (zs : List Nat) (m : Nat) (hm : zs.length = m) (hm1 : m ≤ 1000) (p : Option Addr) (cap : Nat) (w : World) (hs : Src w b t) (hr : RdN w p zs) :
    Calls Tryz.prog 58 #[.pointer (some ⟨b, 0, none⟩), .int .i64 k, .slice p m cap] w fun e w' => e = .returned (.int .i64 (k + runLen (ofCls zs) (t.data.toList.drop k) : Nat)) ∧ ∃ n, w' = w.drewN n := by
  obtain ⟨g, hg⟩ : ∃ g, k + runLen (ofCls zs) (t.data.toList.drop k) = g := ⟨_, rfl⟩
  rw [hg]
  have HG := Lib.hid hg; have HT := Lib.hid hs.text; have HC := Lib.hid hs.at_; have HR := Lib.hid hr
  clear hg hs hr
  go_enter Tryz.func58, Tryz.ntmps58
  go_wp2
  go_loopw [1] (fun i wr => ∃ k n : Nat, i = .int .i64 k ∧ k ≤ t.size ∧ wr = w.drewN n ∧ Hid (k + runLen (ofCls zs) (t.data.toList.drop k) = g)) (fun i _ => t.size - (intOf i).toNat)
  case atStart => exact ⟨k, 0, rfl, hk, rfl, HG⟩
  case round =>
    obtain ⟨k, n, rfl, hk, rfl, HG⟩ := hrel
    have htx := HT.out
    by_cases hlt : k < t.size
    · have hdr := drop_byte t k hlt
      have hg := HG.out
      rw [hdr] at hg
      have hc := HC.out t[k]
      have h256 : t[k].toNat < 256 := t[k].toNat_lt
      have hd : decide ((k : Int) < (t.size : Int)) = true := by simp; omega
      obtain ⟨c, hcc⟩ : ∃ c, cls t[k] = c := ⟨_, rfl⟩
      obtain ⟨y, hy⟩ : ∃ y, ofCls zs t[k] = y := ⟨_, rfl⟩
      have hcon : ∀ m', Calls Tryz.prog 69 #[.slice p m cap, .int .i64 c] (w.drewN (n + m')) fun e w' => e = .returned (.bool y) ∧ ∃ m2, w' = w.drewN (n + m2) := fun m' => by
        have := contains_any zs m hm hm1 p cap c (w.drewN (n + m')) (HR.out.drewN _)
        rw [← hcc] at this ⊢
        rw [← hy]; exact this.mono fun e w' ⟨he, hw⟩ => ⟨he, m', hw.symm⟩
      have HCON := Lib.hid hcon
      rw [hcc] at hc
      obtain ⟨N, hN⟩ : ∃ N, t[k].toNat = N := ⟨_, rfl⟩
      rw [hN] at hc h256
      cases y
      · have hrun : runLen (ofCls zs) (t[k] :: t.data.toList.drop (k + 1)) = 0 := by rw [runLen, hy]; rfl
        rw [hrun] at hg
        have HG2 := Lib.hid hg
        clear hg hdr hcc hrun hy HG hcon
        go_wp2
        go_quiet (first | with_reducible exact HCON.out _)
        go_wp2
        go_ret
        exact ⟨by rw [← HG2.out]; rfl, _, World.drewN_drewN ..⟩
      · have hrun : runLen (ofCls zs) (t[k] :: t.data.toList.drop (k + 1)) = runLen (ofCls zs) (t.data.toList.drop (k + 1)) + 1 := by rw [runLen, hy]; rfl
        rw [hrun] at hg
        have HG2 := Lib.hid hg
        clear hg hdr hcc hrun hy HG hcon
        go_wp2
        go_quiet (first | with_reducible exact HCON.out _)
        go_wp2
        go_roundw
        case rel => exact ⟨k + 1, n + nq, by go_num, by omega, rfl, Lib.hid (by have := HG2.out; omega)⟩
        case measure => simp [intOf]; omega
    · have hg := HG.out
      rw [drop_end t k (by omega)] at hg
      have hd : decide ((k : Int) < (t.size : Int)) = false := by simp; omega
      have HG2 := Lib.hid hg
      clear hg HG
      go_wp2
      go_quiet (fail)
      go_wp2
      go_ret
      exact ⟨by rw [← HG2.out]; rfl, _, World.drewN_drewN ..⟩
/-- In the words of the callers. -/
theorem partsEnd_below (t : ByteArray) (ht : t.size ≤ 1000000) (b k : Nat) (hk : k ≤ t.size) (zs : List Nat) (m : Nat) (hm : zs.length = m) (hm1 : m ≤ 1000) (p : Option Addr) (cap : Nat) (w : World) (hs : Src w b t) (hr : RdN w p zs) :
    Calls Tryz.prog 58 #[.pointer (some ⟨b, 0, none⟩), .int .i64 k, .slice p m cap] w fun e w' => e = .returned (.int .i64 (k + runLen (ofCls zs) (t.data.toList.drop k) : Nat)) ∧ Below w.heap.size w w' :=
  (partsEnd_any t ht b k hk zs m hm hm1 p cap w hs hr).mono fun _ _ ⟨he, n, hw⟩ => ⟨he, by rw [hw]; exact below_drewN (Below.refl _ _) n⟩
end Go.Proofs.YtlfjdohjfmfcdaaGreatDoor
