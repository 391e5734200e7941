/-
  The walks of tests.
-/
import Derived.Test.YtilfpnkcgjonhaaGreatDoorWalkRatioIf
namespace Go.Proofs.YtilfpnkcgjonhaaGreatDoor.Pr
open Go.RowKit Go.Sort Foyer.Printer Foyer.Lexer Foyer.Round

/-! ### A name in parts -/
theorem index_point : ∀ l : List UInt8, Go.Lib.indexByte l 46 = (match atPoint l with | none => -1 | some p => (p.1.length : Int))
  | [] => rfl
  | c :: r => by
    unfold Go.Lib.indexByte atPoint
    by_cases hc : c = 46
    · subst hc; simp
    · have hb : (c == 46) = false := by rw [beq_eq_false_iff_ne]; exact hc
      rw [hb, if_neg hc, index_point r]
      cases h : atPoint r with
      | none => simp
      | some p =>
        have : ((p.1.length : Int) == -1) = false := by rw [beq_eq_false_iff_ne]; omega
        simp [this]
theorem split_parts (l : List UInt8) : Go.Lib.splitB ⟨#[46]⟩ 0 1 ⟨l.toArray⟩ = (partsOf l).map fun x => (⟨x.toArray⟩ : ByteArray) := by
  have hi : Go.Lib.indexB ⟨l.toArray⟩ ⟨#[46]⟩ = (match atPoint l with | none => -1 | some p => (p.1.length : Int)) := by
    rw [← index_point l]
    exact Go.Lib.index_one l 46
  unfold partsOf
  cases h : atPoint l with
  | none =>
    rw [h] at hi
    rw [Go.Lib.splitB_miss _ _ _ _ hi]
    rfl
  | some p =>
    rw [h] at hi
    have hl := atPoint_some h
    rw [Go.Lib.splitB_hit _ _ _ _ p.1.length hi, Go.Lib.splitB_zero]
    have e1 : (⟨l.toArray⟩ : ByteArray).extract 0 (p.1.length + 0) = ⟨p.1.toArray⟩ := by
      obtain ⟨m, hm, hm2⟩ := part_list ⟨l.toArray⟩ 0 (p.1.length + 0)
      rw [hm, hm2]
      congr 2
      simp only [Nat.add_zero, List.drop_zero]
      conv => lhs; rw [hl]
      exact List.take_left
    have e2 : (⟨l.toArray⟩ : ByteArray).extract (p.1.length + (⟨#[46]⟩ : ByteArray).size) (⟨l.toArray⟩ : ByteArray).size = ⟨p.2.toArray⟩ := by
      obtain ⟨m, hm, hm2⟩ := part_list ⟨l.toArray⟩ (p.1.length + (⟨#[46]⟩ : ByteArray).size) (⟨l.toArray⟩ : ByteArray).size
      rw [hm, hm2]
      congr 2
      rw [show (⟨#[46]⟩ : ByteArray).size = 1 from rfl, size_of_list]
      simp only [List.take_length]
      conv => lhs; rw [hl]
      rw [show p.1 ++ 46 :: p.2 = (p.1 ++ [46]) ++ p.2 by simp, show p.1.length + 1 = (p.1 ++ [46]).length by simp]
      exact List.drop_left
    rw [e1, e2]
    rfl
theorem parts_len (l : List UInt8) : (partsOf l).length = 1 ∨ (partsOf l).length = 2 := by
  unfold partsOf
  split
  · exact Or.inl rfl
  · exact Or.inr rfl
theorem parts_fit {l : List UInt8} (h : nmOk l) : ∀ x ∈ partsOf l, x.length ≤ 1000000 := by
  unfold nmOk at h
  unfold partsOf
  cases hp : atPoint l with
  | none => intro x hx; rw [List.mem_singleton] at hx; subst hx; exact h
  | some p =>
    have hl := atPoint_some hp
    rw [hl, List.length_append, List.length_cons] at h
    intro x hx
    simp only [List.mem_cons, List.not_mem_nil, or_false] at hx
    rcases hx with rfl | rfl <;> omega
theorem split_any (l : List UInt8) (hl : l ≠ []) (hf : nmOk l) (w : World) (hE : Env w) :
    Calls Tryz.prog 161 #[.string ⟨l.toArray⟩, .string ⟨#[46]⟩, .int .i64 2] w fun e w' => e = .returned (.slice (some ⟨w.heap.size, 0, none⟩) (partsOf l).length 2) ∧
      ∃ C : Array Value, w' = w.alloc (.cells C 9) ∧ ∀ (j : Nat) (x : List UInt8), (partsOf l)[j]? = some x → C[j]? = some (.string ⟨x.toArray⟩) := by
  obtain ⟨m, hm⟩ := hE.len
  have hpos : 1 ≤ l.length := by cases l with | nil => exact absurd rfl hl | cons c r => simp
  unfold nmOk at hf
  have hmin : min 2 ((⟨l.toArray⟩ : ByteArray).size + 1) = 2 := by rw [size_of_list]; omega
  have := Any.strings_SplitN { Tryz.laysM147 with } Tryz.laysM147.i9 ⟨l.toArray⟩ ⟨#[46]⟩ 2 m w (by rw [size_of_list]; omega) hm (by decide) (by decide) (by decide)
  rw [hmin, show 2 - 1 = 1 from rfl, split_parts] at this
  refine this.mono ?_
  rintro e w' ⟨rfl, rfl⟩
  refine ⟨by rw [List.length_map], _, rfl, fun j x hx => ?_⟩
  unfold Go.Lib.cellsOf
  rw [List.getElem?_toArray, List.getElem?_append_left (by
    rw [List.length_map, List.length_map]
    exact (List.getElem?_eq_some_iff.1 hx).1), List.getElem?_map, List.getElem?_map, hx]
  rfl

set_option linter.unusedSimpArgs false in
set_option maxRecDepth 100000 in
set_option maxHeartbeats 4000000 in
theorem test_any {B b : Nat} {T : TypeId} (attr : List UInt8) (op : Int) (name : List UInt8) (n pos : Int) (hx : TestZ.Fit ⟨attr, op, name, n, pos⟩) (w : World) (v : Value) (s : St) (h : WR B b T w v s) (hB : B ≤ w.heap.size) (hE : EnvAt B w) :
    Calls Tryz.prog 136 #[.pointer (some ⟨b, 0, none⟩), .agg #[.string ⟨attr.toArray⟩, .int .i64 op, .string ⟨name.toArray⟩, .int .i64 n, .int .i64 pos]] w fun e w' => e = .returned (.tuple #[]) ∧ Step B b T w v (testS ⟨attr, op, name, n, pos⟩ s) w' := by
  have hb0 : Below w.heap.size w (w.alloc (.cells #[.string ⟨attr.toArray⟩, .int .i64 op, .string ⟨name.toArray⟩, .int .i64 n, .int .i64 pos] 68)) := (Below.refl _ _).alloc (Nat.le_refl _) _
  have hR : Wrote b w v (w.alloc (.cells #[.string ⟨attr.toArray⟩, .int .i64 op, .string ⟨name.toArray⟩, .int .i64 n, .int .i64 pos] 68)) v := (Wrote.refl b _ v).later hb0
  have HBK : Hid (∀ w' v', Wrote b (w.alloc (.cells #[.string ⟨attr.toArray⟩, .int .i64 op, .string ⟨name.toArray⟩, .int .i64 n, .int .i64 pos] 68)) v w' v' → Blk w' w.heap.size 68 [.string ⟨attr.toArray⟩, .int .i64 op, .string ⟨name.toArray⟩, .int .i64 n, .int .i64 pos]) := Lib.hid fun w' v' k => (k.kept (k := w.heap.size) (by simp) (by have := h.lt; omega) (fun e => by have := (h.vlow e).2; omega)).1.trans (Blk.new w 68 [.string ⟨attr.toArray⟩, .int .i64 op, .string ⟨name.toArray⟩, .int .i64 n, .int .i64 pos])
  have HB0 : Hid (B ≤ (w.alloc (.cells #[.string ⟨attr.toArray⟩, .int .i64 op, .string ⟨name.toArray⟩, .int .i64 n, .int .i64 pos] 68)).heap.size) := Lib.hid (by simp; omega)
  have HEW : Hid (∀ w' v', Wrote b (w.alloc (.cells #[.string ⟨attr.toArray⟩, .int .i64 op, .string ⟨name.toArray⟩, .int .i64 n, .int .i64 pos] 68)) v w' v' → EnvAt B w') := Lib.hid fun w' v' k => hE.below ((hb0.mono hB).trans ((h.later hb0).wrote (by simp; omega) k))
  have HIN : Hid (∀ w' v', Wrote b (w.alloc (.cells #[.string ⟨attr.toArray⟩, .int .i64 op, .string ⟨name.toArray⟩, .int .i64 n, .int .i64 pos] 68)) v w' v' → Below B w w') := Lib.hid fun w' v' k => (hb0.mono hB).trans ((h.later hb0).wrote (by simp; omega) k)
  have K0 := Lib.hid (h.later hb0)
  have HFIN : Hid (∀ w' v', Wrote b (w.alloc (.cells #[.string ⟨attr.toArray⟩, .int .i64 op, .string ⟨name.toArray⟩, .int .i64 n, .int .i64 pos] 68)) v w' v' → Wrote b w v w' v') := Lib.hid fun w' v' k => hR.trans k
  obtain ⟨w0, hw0⟩ : ∃ w0, w.alloc (.cells #[.string ⟨attr.toArray⟩, .int .i64 op, .string ⟨name.toArray⟩, .int .i64 n, .int .i64 pos] 68) = w0 := ⟨_, rfl⟩
  obtain ⟨u0, hu0⟩ : ∃ u0, u0 = v := ⟨v, rfl⟩
  rw [hw0] at HBK HB0 HEW HIN HFIN K0
  rw [← hu0] at HBK HEW HIN HFIN K0
  have R0 := Lib.hid (Wrote.refl b w0 u0)
  obtain ⟨hx1, hx2, hx3, hx4⟩ := hx
  simp only at hx1 hx2 hx3 hx4
  clear h hb0 hR hE hB
  go_enter Tryz.func136, Tryz.ntmps136
  go_upto_region 2 with fail
  try rw [hw0]
  have hbq : Below w0.heap.size w0 (w0.alloc (.cells (strCells' opWords).toArray 224)) := (Below.refl _ _).alloc (Nat.le_refl _) _
  have HQ0 : Hid (Blk (w0.alloc (.cells (strCells' opWords).toArray 224)) w0.heap.size 224 (strCells' opWords)) := Lib.hid (Blk.new _ _ _)
  have hq1 : w0.heap.size ≠ b := by have := K0.out.lt; omega
  have hq2 : u0.ownBlock ≠ some w0.heap.size := fun e => by have := (K0.out.vlow e).2; omega
  have HQ1 := Lib.hid hq1; have HQ2 := Lib.hid hq2
  have K1 := Lib.hid (K0.out.later hbq); have R1 : Hid (Wrote b w0 u0 _ u0) := Lib.hid (R0.out.trans ((Wrote.refl b _ u0).later hbq))
  obtain ⟨q, hq⟩ : ∃ q, w0.heap.size = q := ⟨_, rfl⟩
  change Code.wp _ _ _ _ (w0.alloc (.cells (strCells' opWords).toArray 224))
  generalize w0.alloc (.cells (strCells' opWords).toArray 224) = w1 at *
  rw [hq] at HQ0 HQ1 HQ2
  try rw [hq]
  clear hbq hq1 hq2 K0 R0
  replace HBK : Hid (∀ w' v', Wrote b w1 u0 w' v' → Blk w' w.heap.size 68 [.string ⟨attr.toArray⟩, .int .i64 op, .string ⟨name.toArray⟩, .int .i64 n, .int .i64 pos]) := Lib.hid fun w' v' k => HBK.out _ _ (R1.out.trans k)
  replace HEW : Hid (∀ w' v', Wrote b w1 u0 w' v' → EnvAt B w') := Lib.hid fun w' v' k => HEW.out _ _ (R1.out.trans k)
  have HFIN1 : Hid (∀ w' v', Wrote b w1 u0 w' v' → Wrote b w u0 w' v') := Lib.hid fun w' v' k => HFIN.out _ _ (R1.out.trans k)
  replace HB0 : Hid (B ≤ w1.heap.size) := Lib.hid (Nat.le_trans HB0.out R1.out.kp.size)
  have HQ : Hid (∀ w' v', Wrote b w1 u0 w' v' → Blk w' q 224 (strCells' opWords) ∧ v'.ownBlock ≠ some q) := Lib.hid fun w' v' k => by
    obtain ⟨h1, h2, _⟩ := k.kept HQ0.out.lt HQ1.out HQ2.out
    exact ⟨h1.trans HQ0.out, h2⟩
  clear HFIN R1 HQ0 HQ2
  have R1 := Lib.hid (Wrote.refl b w1 u0)
  refine wp_region_any (by kernel_rfl) ?_
  have KA := Lib.hid K1.out.drew; have RA := Lib.hid R1.out.drew
  have hS0 : Blk w1.drew w.heap.size 68 [.string ⟨attr.toArray⟩, .int .i64 op, .string ⟨name.toArray⟩, .int .i64 n, .int .i64 pos] := HBK.out _ _ RA.out
  refine any_of_held (S := fun W => Blk W w.heap.size 68 [.string ⟨attr.toArray⟩, .int .i64 op, .string ⟨name.toArray⟩, .int .i64 n, .int .i64 pos]) (N := []) _ _ _ _ ?_
  change held _ _ _ _ _ _ _ _ _ w1.drew
  obtain ⟨wa, hwa⟩ : ∃ wa, w1.drew = wa := ⟨_, rfl⟩
  rw [hwa] at hS0 KA RA ⊢
  clear hwa K1 R1
  refine held_take [] (i := 0) (v := .pointer (some ⟨b, 0, none⟩)) rfl (by kernel_rfl) (fun _ _ _ h => h) (Or.inl ⟨by rfl, fun w' hS => by go_simp⟩) hS0 ?_
  try simp only [Act.put, List.setIfInBounds_toArray, List.set_cons_zero, List.set_cons_succ]
  refine held_take [] (i := 1) (v := .pointer (some ⟨b, 0, none⟩)) rfl (by kernel_rfl) (fun _ _ _ h => h) (Or.inl ⟨by rfl, fun w' hS => by go_simp⟩) hS0 ?_
  try simp only [Act.put, List.setIfInBounds_toArray, List.set_cons_zero, List.set_cons_succ]
  refine held_take [] (i := 2) (v := .pointer (some ⟨b, 0, none⟩)) rfl (by kernel_rfl) (fun _ _ _ h => h) (Or.inl ⟨by rfl, fun w' hS => by go_simp⟩) hS0 ?_
  try simp only [Act.put, List.setIfInBounds_toArray, List.set_cons_zero, List.set_cons_succ]
  refine held_take [] (i := 3) (v := .pointer (some ⟨w.heap.size, 0, none⟩)) rfl (by kernel_rfl) (fun _ _ _ h => h) (Or.inl ⟨by rfl, fun w' hS => by go_simp⟩) hS0 ?_
  try simp only [Act.put, List.setIfInBounds_toArray, List.set_cons_zero, List.set_cons_succ]
  refine held_take [] (i := 4) (v := .string ⟨attr.toArray⟩) rfl (by kernel_rfl) (fun _ _ _ h => h) (Or.inl ⟨by rfl, fun w' hS => by have hc := hS.cell (i := 0) rfl; go_simp⟩) hS0 ?_
  try simp only [Act.put, List.setIfInBounds_toArray, List.set_cons_zero, List.set_cons_succ]
  refine held_one (i := 5) rfl (by kernel_rfl) (fun K hK => ?_)
  go_simp
  refine hK.out _ _ (fun _ => hS0.alloc _) ?_
  clear hK K
  try simp only [Act.put, List.setIfInBounds_toArray, List.set_cons_zero, List.set_cons_succ]
  refine held_one (i := 6) rfl (by kernel_rfl) (fun K hK => ?_)
  go_simp
  have HC := Lib.hid (name_new attr hx1 wa u0 _ KA.out (Nat.le_trans HB0.out RA.out.kp.size))
  refine HC.out.mono ?_; rintro e w2 ⟨rfl, u2, k1, k2⟩
  have K2 := Lib.hid k1; have R2 := Lib.hid (RA.out.trans k2)
  refine hK.out _ _ (fun _ => HBK.out _ _ R2.out) ?_
  clear hK K k1 k2 HC KA RA hS0
  try simp only [Act.put, List.setIfInBounds_toArray, List.set_cons_zero, List.set_cons_succ]
  refine held_done (by kernel_rfl) ?_ _
  go_upto_region 3 with fail
  refine wp_region_any (by kernel_rfl) ?_
  have hQ : Blk w2.drew q 224 (strCells' opWords) ∧ u2.ownBlock ≠ some q := HQ.out _ _ R2.out.drew
  have KA := Lib.hid K2.out.drew; have RA := Lib.hid R2.out.drew
  have hS0 : Blk w2.drew w.heap.size 68 [.string ⟨attr.toArray⟩, .int .i64 op, .string ⟨name.toArray⟩, .int .i64 n, .int .i64 pos] := HBK.out _ _ RA.out
  refine any_of_held (S := fun W => Blk W w.heap.size 68 [.string ⟨attr.toArray⟩, .int .i64 op, .string ⟨name.toArray⟩, .int .i64 n, .int .i64 pos]) (N := []) _ _ _ _ ?_
  change held _ _ _ _ _ _ _ _ _ w2.drew
  obtain ⟨wa, hwa⟩ : ∃ wa, w2.drew = wa := ⟨_, rfl⟩
  rw [hwa] at hS0 KA RA hQ ⊢
  clear hwa K2 R2
  refine held_take [] (i := 0) (v := .pointer (some ⟨b, 0, none⟩)) rfl (by kernel_rfl) (fun _ _ _ h => h) (Or.inl ⟨by rfl, fun w' hS => by go_simp⟩) hS0 ?_
  try simp only [Act.put, List.setIfInBounds_toArray, List.set_cons_zero, List.set_cons_succ]
  refine held_take [] (i := 1) (v := .pointer (some ⟨b, 0, none⟩)) rfl (by kernel_rfl) (fun _ _ _ h => h) (Or.inl ⟨by rfl, fun w' hS => by go_simp⟩) hS0 ?_
  try simp only [Act.put, List.setIfInBounds_toArray, List.set_cons_zero, List.set_cons_succ]
  refine held_take [] (i := 2) (v := .pointer (some ⟨b, 0, none⟩)) rfl (by kernel_rfl) (fun _ _ _ h => h) (Or.inl ⟨by rfl, fun w' hS => by go_simp⟩) hS0 ?_
  try simp only [Act.put, List.setIfInBounds_toArray, List.set_cons_zero, List.set_cons_succ]
  refine held_take [] (i := 3) (v := .slice (some ⟨q, 0, none⟩) 7 7) rfl (by kernel_rfl) (fun _ _ _ h => h) (Or.inl ⟨by rfl, fun w' hS => by go_simp⟩) hS0 ?_
  try simp only [Act.put, List.setIfInBounds_toArray, List.set_cons_zero, List.set_cons_succ]
  refine held_take [] (i := 4) (v := .pointer (some ⟨w.heap.size, 1, none⟩)) rfl (by kernel_rfl) (fun _ _ _ h => h) (Or.inl ⟨by rfl, fun w' hS => by go_simp⟩) hS0 ?_
  try simp only [Act.put, List.setIfInBounds_toArray, List.set_cons_zero, List.set_cons_succ]
  refine held_take [] (i := 5) (v := .int .i64 op) rfl (by kernel_rfl) (fun _ _ _ h => h) (Or.inl ⟨by rfl, fun w' hS => by have hc := hS.cell (i := 1) rfl; go_simp⟩) hS0 ?_
  try simp only [Act.put, List.setIfInBounds_toArray, List.set_cons_zero, List.set_cons_succ]
  refine held_one (i := 6) rfl (by kernel_rfl) (fun K hK => ?_)
  go_simp
  have HC := Lib.hid (oneOf_any opWords (by decide) op hx2 q _ wa u2 _ KA.out (Nat.le_trans HB0.out RA.out.kp.size) HQ1.out hQ.2 hQ.1)
  refine HC.out.mono ?_; rintro e w3 ⟨rfl, u3, k1, k2⟩
  have K3 := Lib.hid k1; have R3 := Lib.hid (RA.out.trans k2)
  refine hK.out _ _ (fun _ => HBK.out _ _ R3.out) ?_
  clear hK K k1 k2 HC KA RA hS0 hQ
  try simp only [Act.put, List.setIfInBounds_toArray, List.set_cons_zero, List.set_cons_succ]
  refine held_done (by kernel_rfl) ?_ _
  clear HQ
  have c2 := (HBK.out _ _ R3.out).cell (i := 2) rfl
  by_cases hk : name = []
  · subst hk
    have hs : Hid (testS ⟨attr, op, [], n, pos⟩ s = numbersS [n] (oneOfS opWords op (namesS [attr] s))) := Lib.hid rfl
    go_upto_region 5 with fail
    refine wp_region_any (by kernel_rfl) ?_
    have KA := Lib.hid K3.out.drew; have RA := Lib.hid R3.out.drew
    have hS0 : Blk w3.drew w.heap.size 68 [.string ⟨attr.toArray⟩, .int .i64 op, .string ⟨([] : List UInt8).toArray⟩, .int .i64 n, .int .i64 pos] := HBK.out _ _ RA.out
    refine any_of_held (S := fun W => Blk W w.heap.size 68 [.string ⟨attr.toArray⟩, .int .i64 op, .string ⟨([] : List UInt8).toArray⟩, .int .i64 n, .int .i64 pos]) (N := []) _ _ _ _ ?_
    change held _ _ _ _ _ _ _ _ _ w3.drew
    obtain ⟨wa, hwa⟩ : ∃ wa, w3.drew = wa := ⟨_, rfl⟩
    rw [hwa] at hS0 KA RA ⊢
    clear hwa K3 R3
    refine held_take [] (i := 0) (v := .pointer (some ⟨b, 0, none⟩)) rfl (by kernel_rfl) (fun _ _ _ h => h) (Or.inl ⟨by rfl, fun w' hS => by go_simp⟩) hS0 ?_
    try simp only [Act.put, List.setIfInBounds_toArray, List.set_cons_zero, List.set_cons_succ]
    refine held_take [] (i := 1) (v := .pointer (some ⟨b, 0, none⟩)) rfl (by kernel_rfl) (fun _ _ _ h => h) (Or.inl ⟨by rfl, fun w' hS => by go_simp⟩) hS0 ?_
    try simp only [Act.put, List.setIfInBounds_toArray, List.set_cons_zero, List.set_cons_succ]
    refine held_take [] (i := 2) (v := .pointer (some ⟨b, 0, none⟩)) rfl (by kernel_rfl) (fun _ _ _ h => h) (Or.inl ⟨by rfl, fun w' hS => by go_simp⟩) hS0 ?_
    try simp only [Act.put, List.setIfInBounds_toArray, List.set_cons_zero, List.set_cons_succ]
    refine held_take [] (i := 3) (v := .pointer (some ⟨w.heap.size, 3, none⟩)) rfl (by kernel_rfl) (fun _ _ _ h => h) (Or.inl ⟨by rfl, fun w' hS => by go_simp⟩) hS0 ?_
    try simp only [Act.put, List.setIfInBounds_toArray, List.set_cons_zero, List.set_cons_succ]
    refine held_take [] (i := 4) (v := .int .i64 n) rfl (by kernel_rfl) (fun _ _ _ h => h) (Or.inl ⟨by rfl, fun w' hS => by have hc := hS.cell (i := 3) rfl; go_simp⟩) hS0 ?_
    try simp only [Act.put, List.setIfInBounds_toArray, List.set_cons_zero, List.set_cons_succ]
    refine held_one (i := 5) rfl (by kernel_rfl) (fun K hK => ?_)
    go_simp
    refine hK.out _ _ (fun _ => hS0.alloc _) ?_
    clear hK K
    try simp only [Act.put, List.setIfInBounds_toArray, List.set_cons_zero, List.set_cons_succ]
    refine held_one (i := 6) rfl (by kernel_rfl) (fun K hK => ?_)
    go_simp
    have HC := Lib.hid (numbers_new [n] (by intro z hz; rw [List.mem_singleton] at hz; subst hz; exact hx4) (by simp) wa u3 _ KA.out (Nat.le_trans HB0.out RA.out.kp.size) (HEW.out _ _ (RA.out)))
    refine HC.out.mono ?_; rintro e w4 ⟨rfl, u4, k1, k2⟩
    have K4 := Lib.hid k1; have R4 := Lib.hid (RA.out.trans k2)
    refine hK.out _ _ (fun _ => HBK.out _ _ R4.out) ?_
    clear hK K k1 k2 HC KA RA hS0
    try simp only [Act.put, List.setIfInBounds_toArray, List.set_cons_zero, List.set_cons_succ]
    refine held_done (by kernel_rfl) ?_ _
    go_wp2
    refine bodyPost_ret (results_none rfl _ _ _) rfl ?_
    subst hu0
    exact ⟨rfl, u4, by rw [hs.out]; exact K4.out, HFIN1.out _ _ R4.out⟩
  · have hs : Hid (testS ⟨attr, op, name, n, pos⟩ s = namesS (partsOf name) (requireS (decide (n = 0)) (oneOfS opWords op (namesS [attr] s)))) := Lib.hid (by unfold testS; simp only [hk, if_false])
    have hk0 : (name == []) = false := by rw [beq_eq_false_iff_ne]; exact hk
    go_upto_region 6 with fail
    refine wp_region_any (by kernel_rfl) ?_
    have KA := Lib.hid K3.out.drew; have RA := Lib.hid R3.out.drew
    have hS0 : Blk w3.drew w.heap.size 68 [.string ⟨attr.toArray⟩, .int .i64 op, .string ⟨name.toArray⟩, .int .i64 n, .int .i64 pos] := HBK.out _ _ RA.out
    refine any_of_held (S := fun W => Blk W w.heap.size 68 [.string ⟨attr.toArray⟩, .int .i64 op, .string ⟨name.toArray⟩, .int .i64 n, .int .i64 pos]) (N := []) _ _ _ _ ?_
    change held _ _ _ _ _ _ _ _ _ w3.drew
    obtain ⟨wa, hwa⟩ : ∃ wa, w3.drew = wa := ⟨_, rfl⟩
    rw [hwa] at hS0 KA RA ⊢
    clear hwa K3 R3
    refine held_take [] (i := 0) (v := .pointer (some ⟨b, 0, none⟩)) rfl (by kernel_rfl) (fun _ _ _ h => h) (Or.inl ⟨by rfl, fun w' hS => by go_simp⟩) hS0 ?_
    try simp only [Act.put, List.setIfInBounds_toArray, List.set_cons_zero, List.set_cons_succ]
    refine held_take [] (i := 1) (v := .pointer (some ⟨b, 0, none⟩)) rfl (by kernel_rfl) (fun _ _ _ h => h) (Or.inl ⟨by rfl, fun w' hS => by go_simp⟩) hS0 ?_
    try simp only [Act.put, List.setIfInBounds_toArray, List.set_cons_zero, List.set_cons_succ]
    refine held_take [] (i := 2) (v := .pointer (some ⟨b, 0, none⟩)) rfl (by kernel_rfl) (fun _ _ _ h => h) (Or.inl ⟨by rfl, fun w' hS => by go_simp⟩) hS0 ?_
    try simp only [Act.put, List.setIfInBounds_toArray, List.set_cons_zero, List.set_cons_succ]
    refine held_take [] (i := 3) (v := .pointer (some ⟨w.heap.size, 3, none⟩)) rfl (by kernel_rfl) (fun _ _ _ h => h) (Or.inl ⟨by rfl, fun w' hS => by go_simp⟩) hS0 ?_
    try simp only [Act.put, List.setIfInBounds_toArray, List.set_cons_zero, List.set_cons_succ]
    refine held_take [] (i := 4) (v := .int .i64 n) rfl (by kernel_rfl) (fun _ _ _ h => h) (Or.inl ⟨by rfl, fun w' hS => by have hc := hS.cell (i := 3) rfl; go_simp⟩) hS0 ?_
    try simp only [Act.put, List.setIfInBounds_toArray, List.set_cons_zero, List.set_cons_succ]
    refine held_take [] (i := 5) (v := .bool (n == 0)) rfl (by kernel_rfl) (fun _ _ _ h => h) (Or.inl ⟨by rfl, fun w' hS => by go_simp⟩) hS0 ?_
    try simp only [Act.put, List.setIfInBounds_toArray, List.set_cons_zero, List.set_cons_succ]
    refine held_one (i := 6) rfl (by kernel_rfl) (fun K hK => ?_)
    go_simp
    have HC := Lib.hid (require_s (decide (n = 0)) wa u3 _ KA.out)
    refine HC.out.mono ?_; rintro e w4 ⟨rfl, u4, k1, k2⟩
    have K4 := Lib.hid k1; have R4 := Lib.hid (RA.out.trans k2)
    refine hK.out _ _ (fun _ => HBK.out _ _ R4.out) ?_
    clear hK K k1 k2 HC KA RA hS0
    try simp only [Act.put, List.setIfInBounds_toArray, List.set_cons_zero, List.set_cons_succ]
    refine held_done (by kernel_rfl) ?_ _
    go_upto_region 7 with fail
    refine wp_region_any (by kernel_rfl) ?_
    have KA := Lib.hid K4.out.drew; have RA := Lib.hid R4.out.drew
    have hS0 : Blk w4.drew w.heap.size 68 [.string ⟨attr.toArray⟩, .int .i64 op, .string ⟨name.toArray⟩, .int .i64 n, .int .i64 pos] := HBK.out _ _ RA.out
    refine any_of_held (S := fun W => Blk W w.heap.size 68 [.string ⟨attr.toArray⟩, .int .i64 op, .string ⟨name.toArray⟩, .int .i64 n, .int .i64 pos]) (N := []) _ _ _ _ ?_
    change held _ _ _ _ _ _ _ _ _ w4.drew
    obtain ⟨wa, hwa⟩ : ∃ wa, w4.drew = wa := ⟨_, rfl⟩
    rw [hwa] at hS0 KA RA ⊢
    clear hwa K4 R4
    refine held_take [] (i := 0) (v := .pointer (some ⟨b, 0, none⟩)) rfl (by kernel_rfl) (fun _ _ _ h => h) (Or.inl ⟨by rfl, fun w' hS => by go_simp⟩) hS0 ?_
    try simp only [Act.put, List.setIfInBounds_toArray, List.set_cons_zero, List.set_cons_succ]
    refine held_take [] (i := 1) (v := .pointer (some ⟨b, 0, none⟩)) rfl (by kernel_rfl) (fun _ _ _ h => h) (Or.inl ⟨by rfl, fun w' hS => by go_simp⟩) hS0 ?_
    try simp only [Act.put, List.setIfInBounds_toArray, List.set_cons_zero, List.set_cons_succ]
    refine held_take [] (i := 2) (v := .pointer (some ⟨b, 0, none⟩)) rfl (by kernel_rfl) (fun _ _ _ h => h) (Or.inl ⟨by rfl, fun w' hS => by go_simp⟩) hS0 ?_
    try simp only [Act.put, List.setIfInBounds_toArray, List.set_cons_zero, List.set_cons_succ]
    refine held_take [] (i := 3) (v := .pointer (some ⟨w.heap.size, 2, none⟩)) rfl (by kernel_rfl) (fun _ _ _ h => h) (Or.inl ⟨by rfl, fun w' hS => by go_simp⟩) hS0 ?_
    try simp only [Act.put, List.setIfInBounds_toArray, List.set_cons_zero, List.set_cons_succ]
    refine held_take [] (i := 4) (v := .string ⟨name.toArray⟩) rfl (by kernel_rfl) (fun _ _ _ h => h) (Or.inl ⟨by rfl, fun w' hS => by have hc := hS.cell (i := 2) rfl; go_simp⟩) hS0 ?_
    try simp only [Act.put, List.setIfInBounds_toArray, List.set_cons_zero, List.set_cons_succ]
    refine held_one (i := 5) rfl (by kernel_rfl) (fun K hK => ?_)
    go_simp
    refine (split_any name hk hx3 wa (HEW.out _ _ RA.out).env).mono ?_; rintro e wz ⟨rfl, C, rfl, hC⟩
    have hbz : Below wa.heap.size wa (wa.alloc (.cells C 9)) := (Below.refl _ _).alloc (Nat.le_refl _) _
    have HC0 := Lib.hid hC
    refine hK.out _ _ (fun _ => hS0.alloc _) ?_
    clear hK K hC
    try simp only [Act.put, List.setIfInBounds_toArray, List.set_cons_zero, List.set_cons_succ]
    refine held_one (i := 6) rfl (by kernel_rfl) (fun K hK => ?_)
    go_simp
    have hlt := KA.out.lt
    have HC := Lib.hid (names_any (partsOf name) (parts_len name) (parts_fit hx3) wa.heap.size 0 2 (by have := parts_len name; omega) (wa.alloc (.cells C 9)) u4 _ (KA.out.later hbz) (Nat.le_trans HB0.out (Nat.le_trans RA.out.kp.size hbz.size)) (by omega) (fun e => by have := (KA.out.vlow e).2; omega) (by simp) (fun j x hj => by
      rw [Nat.zero_add]
      have h2 := HC0.out j x hj
      exact Blk.cell (b := wa.heap.size) (T := 9) (cs := C.toList) (by have := Blk.new wa 9 C.toList; simpa using this) (by simpa using h2)))
    refine HC.out.mono ?_; rintro e w5 ⟨rfl, u5, k1, k2⟩
    replace RA := Lib.hid (RA.out.trans (k2.later hbz))
    replace KA := Lib.hid k1
    refine hK.out _ _ (fun _ => HBK.out _ _ RA.out) ?_
    clear hS0
    have hS0 := HBK.out _ _ RA.out
    clear hK K k1 k2 HC hbz HC0
    try simp only [Act.put, List.setIfInBounds_toArray, List.set_cons_zero, List.set_cons_succ]
    refine held_done (by kernel_rfl) ?_ _
    have K5 := KA; have R5 := RA
    clear KA RA hS0
    go_wp2
    go_end0
    subst hu0
    exact ⟨rfl, u5, by rw [hs.out]; exact K5.out, HFIN1.out _ _ R5.out⟩
end Go.Proofs.YtilfpnkcgjonhaaGreatDoor.Pr
