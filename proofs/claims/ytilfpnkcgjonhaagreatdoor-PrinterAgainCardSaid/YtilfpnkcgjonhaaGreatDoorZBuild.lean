/-
  What a strings.Builder of the call's own holds behind WriteString, at this program's own numbers. (Their check against copies bears a refused statement here, on a way that is never gone: so the library's own contracts do not fit.)
-/
import Derived.Test.YtilfpnkcgjonhaaGreatDoorZMid
import Derived.Lib.Builder
import Derived.Lib.AppendStr
import Derived.Lib.UnsafeStr
import Derived.Laws.Externs
namespace Go.Proofs.YtilfpnkcgjonhaaGreatDoor.Pr
open Go.RowKit
def Holds (B b : Nat) (bs : List Value) (w : World) : Prop := Lib.BuilderAt 173 5 B b (.pointer (some ⟨b, 0, none⟩)) bs w
def Builds (B b : Nat) (bs : List Value) (w : World) : Prop := Lib.IsBuilder 173 5 B b bs w
theorem builderAt_below {p : Value} {B b : Nat} {bs : List Value} {w w' : World} (h : Lib.BuilderAt 173 5 B b p bs w) (hb : Below w.heap.size w w') : Lib.BuilderAt 173 5 B b p bs w' := by
 have hlt := h.lt
 obtain ⟨hB, v, hv, hown, hne⟩ := h
 exact ⟨hB, v, (hb.block _ hlt).trans hv, own_kept hown hb, hne⟩
theorem Builds.below {B b : Nat} {bs : List Value} {w w' : World} (h : Builds B b bs w) (hb : Below w.heap.size w w') : Builds B b bs w' :=
 h.imp (builderAt_below · hb) (builderAt_below · hb)
theorem Builds.cast {B b : Nat} {bs cs : List Value} {w : World} (h : Builds B b bs w) (e : bs = cs) : Builds B b cs w := e ▸ h
theorem bSize : (Tryz.prog.info? 173).map (·.size) = some 2 := by kernel_rfl
theorem bLies : liesAt Tryz.prog Tryz.prog.depth 173 (2 / Tryz.prog.cellsOf 173) 0 173 1 = true := by kernel_rfl
theorem byteInfoB : (Tryz.prog.info? 5).map (fun i => (i.zero, i.size, i.bytes)) = some (some (.int .u8 0), 1, 1) := by kernel_rfl
theorem bNe : (173 : TypeId) ≠ 5 := by decide
set_option maxRecDepth 100000 in
theorem check_fresh (b : Nat) (w : World) (hbk : w.heap[b]? = some (.cells #[.pointer none, .slice none 0 0] 173 (0, 0))) :
  Calls Tryz.prog 132 #[.pointer (some ⟨b, 0, none⟩)] w fun e w' => e = .returned (.tuple #[]) ∧ w' = w.setCell ⟨b, 0, none⟩ (.pointer (some ⟨b, 0, none⟩)) := by
 obtain ⟨j, hj, hjs⟩ := Option.map_eq_some_iff.1 bSize
 have h : Lib.BuilderAt 173 5 0 b (.pointer none) [] w := ⟨Nat.zero_le _, .slice none 0 0, hbk, World.ownsRow_nil _ _ _ _, by simp [Value.ownBlock]⟩
 have h0 := h.cell0
 have hfz := h.frozen0
 have hthere := Lib.run_to_unsafe (P := Tryz.prog) w ⟨b, 0, none⟩ Tryz.underlying171 Tryz.underlying219 hj (by rw [hjs]; decide) h.shape (Nat.zero_lt_succ 1)
 have hback := Lib.run_from_unsafe (P := Tryz.prog) w ⟨b, 0, none⟩ Tryz.underlying219 Tryz.underlying171 hj h.shape bLies
 have hsame : ∀ v : Value, (callFunc 158 #[v]).run Tryz.prog w = .ok (.value v) w := fun v => by
  rw [run_callFunc_extern Tryz.func158 (by kernel_rfl) (by kernel_rfl) (by kernel_rfl) (e := Extern.AbiNoEscape.same) (by kernel_rfl), Lib.run_noEscape]
  rfl
 clear h hj hjs hbk
 go_enter Tryz.func132, Tryz.ntmps132
 go_wp2
 go_end0
 exact ⟨rfl, rfl⟩
set_option maxRecDepth 100000 in
theorem check_any (B b : Nat) (bs : List Value) (w : World) (h : Builds B b bs w) :
  Calls Tryz.prog 132 #[.pointer (some ⟨b, 0, none⟩)] w fun e w' => e = .returned (.tuple #[]) ∧ Holds B b bs w' ∧ Below B w w' := by
 obtain ⟨j, hj, hjs⟩ := Option.map_eq_some_iff.1 bSize
 rcases h with h | h
 ·have h0 := h.cell0
  have hfz := h.frozen0
  have hthere := Lib.run_to_unsafe (P := Tryz.prog) w ⟨b, 0, none⟩ Tryz.underlying171 Tryz.underlying219 hj (by rw [hjs]; decide) h.shape (Nat.zero_lt_succ 1)
  have hback := Lib.run_from_unsafe (P := Tryz.prog) w ⟨b, 0, none⟩ Tryz.underlying219 Tryz.underlying171 hj h.shape bLies
  have hsame : ∀ v : Value, (callFunc 158 #[v]).run Tryz.prog w = .ok (.value v) w := fun v => by
   rw [run_callFunc_extern Tryz.func158 (by kernel_rfl) (by kernel_rfl) (by kernel_rfl) (e := Extern.AbiNoEscape.same) (by kernel_rfl), Lib.run_noEscape]
   rfl
  have HK : Hid (Holds B b bs (w.setCell ⟨b, 0, none⟩ (.pointer (some ⟨b, 0, none⟩))) ∧ Below B w (w.setCell ⟨b, 0, none⟩ (.pointer (some ⟨b, 0, none⟩)))) := ⟨h.used _, (Below.refl B w).setCell (p := ⟨b, 0, none⟩) h.1 _⟩
  clear h hj hjs
  go_enter Tryz.func132, Tryz.ntmps132
  go_wp2
  go_end0
  exact ⟨rfl, HK.out.1, HK.out.2⟩
 ·have h0 := h.cell0
  have hsame := Lib.run_neq_ptr_same (P := Tryz.prog) w ⟨b, 0, none⟩ Tryz.underlying171 hj
  have HK : Hid (Holds B b bs w) := h
  clear h hj hjs
  go_enter Tryz.func132, Tryz.ntmps132
  go_wp2
  go_end0
  exact ⟨rfl, HK.out, Below.refl B w⟩
theorem head_kept {w w1 : World} {b : Nat} {p v : Value} (hbk : w.heap[b]? = some (.cells #[p, v] 173 (0, 0))) (hlt : b < w.heap.size) (hg : w.grownBy w1 v.ownBlock) (hne : v.ownBlock ≠ some b) :
  w1.heap[b]? = some (.cells #[p, v] 173 (0, 0)) ∧ w1.cell? ⟨b, 0, none⟩ = some p ∧ w1.cell? ⟨b, 1, none⟩ = some v ∧ w1.frozen? ⟨b, 1, none⟩ = false := by
 have h := (hg.block b hlt (fun e => hne e.symm)).trans hbk
 exact ⟨h, by rw [Lib.cell_of_heap h]; rfl, by rw [Lib.cell_of_heap h]; rfl, Lib.frozen_of_heap h 1⟩
theorem own_slice {w : World} {B n : Nat} {v : Value} {xs : List Value} (h : w.ownsRow B 5 1 v n xs) : ∃ a l c, v = .slice a l c := by
 rcases h.2 with ⟨hv, _⟩ | ⟨g, cap, cur, hv, _⟩
 ·exact ⟨_, _, _, hv⟩
 ·exact ⟨_, _, _, hv⟩
set_option maxHeartbeats 1000000 in
set_option maxRecDepth 100000 in
theorem writeString_any (B b : Nat) (bs : List Value) (s : ByteArray) (w : World) (h : Builds B b bs w) (hlen : bs.length + s.size ≤ 140737488355328) (hBw : B ≤ w.heap.size) :
  Calls Tryz.prog 97 #[.pointer (some ⟨b, 0, none⟩), .string s] w fun e w' => e = .returned (.tuple #[.int .i64 s.size, .nilIface]) ∧ Holds B b (bs ++ Lib.strCells s) w' ∧ Below B w w' := by
 obtain ⟨i0, hi, hz0, hz1, hz2⟩ := info_parts byteInfoB
 have HC := hid (check_any B b bs w h)
 clear h
 go_enter Tryz.func97, Tryz.ntmps97
 go_wp2_with fail
 refine HC.out.mono ?_; rintro e w1 ⟨rfl, h1, hb1⟩
 have hlt := Lib.BuilderAt.lt h1
 obtain ⟨hB, v, hbk, hown, hne⟩ := h1
 have hs1 := hb1.size
 have k0 : w1.cell? ⟨b, 0, none⟩ = some (.pointer (some ⟨b, 0, none⟩)) := by rw [Lib.cell_of_heap hbk]; rfl
 have k1 : w1.cell? ⟨b, 1, none⟩ = some v := by rw [Lib.cell_of_heap hbk]; rfl
 go_wp2_with (at_builtin; refine Lib.wpList_append_own_string _ rfl _ _ 78 9 rfl B 5 i0 Tryz.underlying78 Tryz.underlying9 hi hz0 hz1 hz2 _ _ _ rfl hown s rfl ?fits ?room ?base ?_)
 case fits => unfold maxLen; omega
 case room => omega
 case base => omega
 intro v' w2 hown2 hgrow _
 obtain ⟨hb2, d0, d1, f1⟩ := head_kept hbk hlt hgrow hne
 have hbel := hb1.grown hgrow (by omega) (fun k hk => (hown.lt k hk).1)
 obtain ⟨a2, n2, c2, rfl⟩ := own_slice hown2
 go_wp2
 go_ret2
 exact ⟨rfl, Lib.BuilderAt.put hB hb2 (own_cast hown2 (by simp [Lib.strCells_length]) rfl) bNe, hbel.setCell (p := ⟨b, 1, none⟩) hB _⟩
end Go.Proofs.YtilfpnkcgjonhaaGreatDoor.Pr
