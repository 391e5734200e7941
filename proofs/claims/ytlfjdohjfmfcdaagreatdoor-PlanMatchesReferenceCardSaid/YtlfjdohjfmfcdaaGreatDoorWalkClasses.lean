/-
  The walk of the classes of all bytes: an array of 256 elements that a function fills.
-/
import Derived.Test.YtlfjdohjfmfcdaaGreatDoorSrc
import Derived.Deep.WholeRow
namespace Go.Proofs.YtlfjdohjfmfcdaaGreatDoor
open Go.RowKit Foyer.Lexer

/-- A row of 256 classes in a block. -/
structure Row (w : World) (b : Nat) (T : Nat → Nat) : Prop where
  cell : ∀ j, j < 256 → w.cell? ⟨b, j, none⟩ = some (.int .i64 (T j : Nat))
  free : ∀ j, j < 256 → w.frozen? ⟨b, j, none⟩ = false
/-- The table with the bytes of a text marked, up to a place. -/
def markd (T : Nat → Nat) (s : ByteArray) (c : Nat) (k : Nat) (j : Nat) : Nat := if (s.data.toList.take k).any (fun b => b.toNat == j) then c else T j
theorem markd_zero (T : Nat → Nat) (s : ByteArray) (c : Nat) : markd T s c 0 = T := by funext j; simp [markd]
theorem markd_succ (T : Nat → Nat) (s : ByteArray) (c k : Nat) (hk : k < s.size) (j : Nat) : markd T s c (k + 1) j = if j = s[k].toNat then c else markd T s c k j := by
  unfold markd
  have hl : k < s.data.toList.length := by simpa using hk
  rw [List.take_succ_eq_append_getElem hl, List.any_append]
  simp only [List.any_cons, List.any_nil, Bool.or_false, Bool.or_eq_true]
  have e : s.data.toList[k] = s[k] := by simp [ByteArray.getElem_eq_getElem_data]
  rw [e]
  by_cases h : j = s[k].toNat
  · rw [if_pos h, if_pos (Or.inr (by simpa using h.symm))]
  · rw [if_neg h]
    congr 1
    simp only [eq_iff_iff]
    constructor
    · rintro (h2 | h2)
      · exact h2
      · simp at h2; exact absurd h2.symm h
    · exact Or.inl

set_option maxRecDepth 100000 in
set_option maxHeartbeats 1000000 in
theorem mark_any (s : ByteArray) (hs : s.size ≤ 1000) (c b : Nat) (T : Nat → Nat) (w : World) (hr : Row w b T) :
    Calls Tryz.prog 46 #[.string s, .int .i64 c, .pointer (some ⟨b, 0, none⟩)] w fun e w' => (∃ v, e = .returned v) ∧ Row w' b (markd T s c s.size) ∧ (∀ k, k ≠ b → w'.heap[k]? = w.heap[k]?) ∧ w'.heap.size = w.heap.size ∧ (∀ B, B ≤ b → Below B w w') := by
  have HR := Lib.hid hr; clear hr
  go_enter Tryz.func46, Tryz.ntmps46
  go_wp2
  go_loopw [8] (fun i wr => ∃ k : Nat, i = .int .i64 k ∧ k ≤ s.size ∧ Hid (Row wr b (markd T s c k)) ∧ Hid (∀ k, k ≠ b → wr.heap[k]? = w.heap[k]?) ∧ Hid (wr.heap.size = w.heap.size) ∧ Hid (∀ B, B ≤ b → Below B w wr)) (fun i _ => s.size - (intOf i).toNat)
  case atStart => exact ⟨0, rfl, by omega, by rw [markd_zero]; exact HR, Lib.hid (fun _ _ => rfl), Lib.hid rfl, Lib.hid (fun B _ => Below.refl _ _)⟩
  case round =>
    clear HR
    obtain ⟨k, rfl, hk, HR, HO, HZ, HB⟩ := hrel
    by_cases hk2 : k < s.size
    · have h256 : s[k].toNat < 256 := s[k].toNat_lt
      have hc := HR.out.cell _ h256
      have hf := HR.out.free _ h256
      have hsucc := markd_succ T s c k hk2
      obtain ⟨N, hN⟩ : ∃ N, s[k].toNat = N := ⟨_, rfl⟩
      rw [hN] at h256 hc hf hsucc
      obtain ⟨m, hm⟩ : ∃ m, markd T s c k N = m := ⟨_, rfl⟩
      rw [hm] at hc
      have HSU := Lib.hid hsucc
      clear hsucc hm
      go_wp2
      go_roundw
      case rel =>
        refine ⟨k + 1, by go_num, by omega, Lib.hid ⟨fun j hj => ?_, fun j hj => by rw [World.frozen?_setCell]; exact HR.out.free j hj⟩, Lib.hid (fun q hq => ?_), Lib.hid (by rw [World.size_setCell]; exact HZ.out), Lib.hid (fun B hB => (HB.out B hB).setCell (p := ⟨b, N, none⟩) hB _)⟩
        · rw [HSU.out j]
          by_cases e : j = N
          · subst e
            rw [if_pos rfl]
            exact World.cell?_setCell_same _ _ _ hc
          · rw [if_neg e, World.cell?_setCell_other _ _ _ _ (by intro h; injection h with _ h' _; exact e h'.symm)]
            exact HR.out.cell j hj
        · exact (Below.heap_setCell wr ⟨b, N, none⟩ _ q hq).trans (HO.out q hq)
      case measure => simp [intOf]; omega
    · obtain rfl : k = s.size := by omega
      go_wp2
      go_end0
      exact ⟨⟨_, rfl⟩, HR.out, HO.out, HZ.out, HB.out⟩

/-! ### Whole arrays, by the plain laws -/
theorem wpList_load_mid {P : Program} {ops : Array Oper} {rest : List Oper} {op : Oper} {a : Act} {w : World} {Q : Exit → Act → World → Prop} (hgd : op.guard = none) (ty : TypeId) (x : Operand) (ho : op.op = .load ty x)
    (b o : Nat) (hx : a.eval x = .pointer (some ⟨b, o, none⟩)) (cs : List Value) (d : TypeDesc) (hc : w.rangeAt b o cs)
    (hu : P.underlying ty = some d) (hd : d.isRow = true) (hi : (P.info? ty).map (·.size) = some cs.length)
    (h : wpList P ops Q rest (a.put op.dst (.agg cs.toArray)) w) : wpList P ops Q (op :: rest) a w := by
  refine wpList_plain hgd fun K hK' => ?_
  unfold Oper.wp execOp
  simp only [ho, hx, Instr.loadAt, Instr.sureAddr, Sem.run_bind, Sem.run_pure, Result.andThen_ok, run_loadVar_mid w b o ty cs d hc hu hd hi]
  exact hK' _ _ h
theorem wpList_store_mid {P : Program} {ops : Array Oper} {rest : List Oper} {op : Oper} {a : Act} {w : World} {Q : Exit → Act → World → Prop} (hgd : op.guard = none) (ty : TypeId) (x y : Operand) (ho : op.op = .store ty x y)
    (b o : Nat) (cells : Array Value) (hx : a.eval x = .pointer (some ⟨b, o, none⟩)) (hy : a.eval y = .agg cells)
    (ht : w.there b o cells.size) (hi : (P.info? ty).map (·.size) = some cells.size) (h1 : cells.all (·.oneCell') = true)
    (h : wpList P ops Q rest (a.put op.dst undef) (w.setCells b o cells.toList)) : wpList P ops Q (op :: rest) a w := by
  refine wpList_plain hgd fun K hK' => ?_
  unfold Oper.wp execOp
  simp only [ho, hx, hy, Instr.storeAt, Instr.sureAddr, Sem.run_bind, Sem.run_pure, Result.andThen_ok, run_storeVar_mid w b o ty cells ht hi h1]
  exact hK' _ _ h

/-- The state between two marks. -/
structure Marks (w w' : World) (T : Nat → Nat) : Prop where
  table : Row w' (w.heap.size + 1) T
  there : Row w' w.heap.size (fun _ => 0)
  below : Below w.heap.size w w'
theorem mark_st {w w' : World} {T : Nat → Nat} (h : Marks w w' T) (s : ByteArray) (hs : s.size ≤ 1000) (c : Nat) :
    Calls Tryz.prog 46 #[.string s, .int .i64 c, .pointer (some ⟨w.heap.size + 1, 0, none⟩)] w' fun e w2 => (∃ v, e = .returned v) ∧ Marks w w2 (markd T s c s.size) :=
  (mark_any s hs c (w.heap.size + 1) T w' h.table).mono fun _ w2 ⟨hv, hr, ho, hz, hb⟩ => ⟨hv, hr, ⟨fun j hj => by
    have : w2.cell? ⟨w.heap.size, j, none⟩ = w'.cell? ⟨w.heap.size, j, none⟩ := World.cell?_of_block (ho w.heap.size (by omega))
    rw [this]; exact h.there.cell j hj, fun j hj => by
    have : w2.frozen? ⟨w.heap.size, j, none⟩ = w'.frozen? ⟨w.heap.size, j, none⟩ := World.frozen?_of_block (ho w.heap.size (by omega))
    rw [this]; exact h.there.free j hj⟩, h.below.trans (hb _ (Nat.le_succ _))⟩
theorem zero_row : Tryz.zeroCells84 = Array.replicate 256 (.int .i64 0) := by kernel_rfl
theorem marks_new (w : World) : Marks w ((w.alloc (.cells Tryz.zeroCells84 84)).alloc (.cells Tryz.zeroCells84 84)) (fun _ => 0) := by
  rw [zero_row]
  refine ⟨⟨fun j hj => ?_, fun j hj => ?_⟩, ⟨fun j hj => ?_, fun j hj => ?_⟩, ((Below.refl _ w).alloc (Nat.le_refl _) _).alloc (by simp) _⟩
  · have hc := cell_fresh (w.alloc (.cells (Array.replicate 256 (.int .i64 0)) 84)) 256 (.int .i64 0) 84 j hj
    simp only [World.size_alloc] at hc
    exact hc.1
  · have hc := cell_fresh (w.alloc (.cells (Array.replicate 256 (.int .i64 0)) 84)) 256 (.int .i64 0) 84 j hj
    simp only [World.size_alloc] at hc
    exact hc.2
  · exact cell_past _ (cell_fresh w 256 (.int .i64 0) 84 j hj).1
  · have hc := cell_fresh w 256 (.int .i64 0) 84 j hj
    exact frozen_past _ hc.1 hc.2

/-- The table that all marks leave. -/
def allMarks : Nat → Nat := (markd (markd (markd (markd (markd (markd (markd (fun _ => 0) ⟨#[32, 9, 10]⟩ 1 3) ⟨#[35]⟩ 2 1) ⟨#[65, 66, 67, 68, 69, 70, 71, 72, 73, 74, 75, 76, 77, 78, 79, 80, 81, 82, 83, 84, 85, 86, 87, 88, 89, 90, 97, 98, 99, 100, 101, 102, 103, 104, 105, 106, 107, 108, 109, 110, 111, 112, 113, 114, 115, 116, 117, 118, 119, 120, 121, 122]⟩ 3 52) ⟨#[48, 49, 50, 51, 52, 53, 54, 55, 56, 57]⟩ 4 10) ⟨#[95]⟩ 5 1) ⟨#[59, 44, 46, 58, 40, 41, 123, 125, 61, 43, 45, 47]⟩ 6 12) ⟨#[33, 60, 62]⟩ 7 3)
theorem allMarks_cls : ∀ j, j < 256 → allMarks j = cls (UInt8.ofNat j) := by decide +kernel
/-- The cells of the classes. -/
def clsCells : List Value := (List.range 256).map fun j => Value.int .i64 (cls (UInt8.ofNat j) : Nat)
theorem clsCells_length : clsCells.length = 256 := by unfold clsCells; rw [List.length_map, List.length_range]
theorem clsCells_at (j : Nat) (h : j < 256) : clsCells[j]? = some (.int .i64 (cls (UInt8.ofNat j) : Nat)) := by
  unfold clsCells; rw [List.getElem?_map, List.getElem?_range h]; rfl
theorem info_arr : (Tryz.prog.info? 84).map (·.size) = some 256 := by kernel_rfl

set_option maxRecDepth 100000 in
set_option maxHeartbeats 1000000 in
theorem classesOf_any (w : World) : Calls Tryz.prog 30 #[] w fun e w' => e = .returned (.agg clsCells.toArray) ∧ Below w.heap.size w w' := by
  have HM := Lib.hid (marks_new w)
  go_enter Tryz.func30, Tryz.ntmps30
  go_wp2_with fail
  refine (mark_st HM.out ⟨#[32, 9, 10]⟩ (by decide) 1).mono ?_; rintro e w1 ⟨⟨v1, rfl⟩, hm1⟩
  clear HM
  have HM := Lib.hid hm1
  clear hm1
  go_wp2_with fail
  refine (mark_st HM.out ⟨#[35]⟩ (by decide) 2).mono ?_; rintro e w2 ⟨⟨v2, rfl⟩, hm2⟩
  clear HM
  have HM := Lib.hid hm2
  clear hm2
  go_wp2_with fail
  refine (mark_st HM.out ⟨#[65, 66, 67, 68, 69, 70, 71, 72, 73, 74, 75, 76, 77, 78, 79, 80, 81, 82, 83, 84, 85, 86, 87, 88, 89, 90, 97, 98, 99, 100, 101, 102, 103, 104, 105, 106, 107, 108, 109, 110, 111, 112, 113, 114, 115, 116, 117, 118, 119, 120, 121, 122]⟩ (by decide) 3).mono ?_; rintro e w3 ⟨⟨v3, rfl⟩, hm3⟩
  clear HM
  have HM := Lib.hid hm3
  clear hm3
  go_wp2_with fail
  refine (mark_st HM.out ⟨#[48, 49, 50, 51, 52, 53, 54, 55, 56, 57]⟩ (by decide) 4).mono ?_; rintro e w4 ⟨⟨v4, rfl⟩, hm4⟩
  clear HM
  have HM := Lib.hid hm4
  clear hm4
  go_wp2_with fail
  refine (mark_st HM.out ⟨#[95]⟩ (by decide) 5).mono ?_; rintro e w5 ⟨⟨v5, rfl⟩, hm5⟩
  clear HM
  have HM := Lib.hid hm5
  clear hm5
  go_wp2_with fail
  refine (mark_st HM.out ⟨#[59, 44, 46, 58, 40, 41, 123, 125, 61, 43, 45, 47]⟩ (by decide) 6).mono ?_; rintro e w6 ⟨⟨v6, rfl⟩, hm6⟩
  clear HM
  have HM := Lib.hid hm6
  clear hm6
  go_wp2_with fail
  refine (mark_st HM.out ⟨#[33, 60, 62]⟩ (by decide) 7).mono ?_; rintro e w7 ⟨⟨v7, rfl⟩, hm7⟩
  clear HM
  have HM := Lib.hid hm7
  clear hm7
  have hrange : w7.rangeAt (w.heap.size + 1) 0 clsCells := fun j v hv => by
    have hj : j < 256 := by
      have := (List.getElem?_eq_some_iff.1 hv).1
      rwa [clsCells_length] at this
    rw [clsCells_at j hj] at hv
    have := HM.out.table.cell j hj
    rw [Nat.zero_add, this, ← hv, ← allMarks_cls j hj]
    rfl
  have hthere : w7.there w.heap.size 0 clsCells.toArray.size := fun j hj => by
    have hj : j < 256 := by simpa [clsCells_length] using hj
    rw [Nat.zero_add, HM.out.there.cell j hj]; exact ⟨rfl, HM.out.there.free j hj⟩
  have hone : clsCells.toArray.all (·.oneCell') = true := all_oneCell_toArray fun v hv => by
    unfold clsCells at hv
    obtain ⟨i, _, rfl⟩ := List.mem_map.1 hv
    rfl
  have hsize : (Tryz.prog.info? 84).map (·.size) = some clsCells.length := by rw [clsCells_length]; exact info_arr
  have hsize2 : (Tryz.prog.info? 84).map (·.size) = some clsCells.toArray.size := by rw [List.size_toArray]; exact hsize
  have HRG := Lib.hid hrange; have HTH := Lib.hid hthere; have HON := Lib.hid hone; have HS1 := Lib.hid hsize; have HS2 := Lib.hid hsize2; have HB := Lib.hid HM.out.below
  clear hrange hthere hone hsize hsize2 HM
  generalize hcs : clsCells = cs at *
  go_wp2_with (first
    | (refine wpList_load_mid rfl 84 _ rfl (w.heap.size + 1) 0 rfl cs _ HRG.out Tryz.underlying84 rfl HS1.out ?_)
    | (refine wpList_store_mid rfl 84 _ _ rfl w.heap.size 0 cs.toArray rfl rfl HTH.out HS2.out HON.out ?_))
  refine bodyPost_ret (results_cell_mid rfl _ _ w.heap.size cs _ rfl ?_ Tryz.underlying84 rfl HS1.out) rfl ⟨by rw [hcs], below_setCells (Nat.le_refl _) cs 0 w7 HB.out⟩
  exact World.rangeAt_setCells_same w7 w.heap.size 0 cs (by have := HTH.out; simpa using this)
end Go.Proofs.YtlfjdohjfmfcdaaGreatDoor
