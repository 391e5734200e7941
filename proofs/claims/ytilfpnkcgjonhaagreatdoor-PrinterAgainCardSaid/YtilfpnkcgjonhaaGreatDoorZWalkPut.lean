/-
  A writer of the call's own in memory, and the walks of its smallest steps.
-/
import Derived.Test.YtilfpnkcgjonhaaGreatDoorZHeap
import Derived.Test.YtilfpnkcgjonhaaGreatDoorZMathToks
import Derived.Lib.AppendStr
import Derived.Lib.Hide
import Derived.StillTailTactics
namespace Go.Proofs.YtilfpnkcgjonhaaGreatDoor.Pr
open Go.RowKit Go.Sort Foyer.Printer
structure WR (B b : Nat) (T : TypeId) (w : World) (v : Value) (s : St) : Prop where
 base : B ≤ b
 cells : Blk w b T [v, .int .i64 (s.opn : Nat), .bool s.refused]
 own : w.ownsRow B 5 1 v s.text.length (Lib.byteCells s.text)
 apart : v.ownBlock ≠ some b
 short : s.text.length ≤ 20200
 low : s.opn ≤ 9
structure Wrote (b : Nat) (w : World) (v : Value) (w' : World) (v' : Value) : Prop where
 kp : Kp (fun k => k = b ∨ v.ownBlock = some k) w w'
 own : ∀ k, v'.ownBlock = some k → v.ownBlock = some k ∨ w.heap.size ≤ k
theorem Wrote.refl (b : Nat) (w : World) (v : Value) : Wrote b w v w v := ⟨Kp.refl _ _, fun _ h => Or.inl h⟩
theorem Wrote.trans {b : Nat} {w w1 w2 : World} {v v1 v2 : Value} (h : Wrote b w v w1 v1) (k : Wrote b w1 v1 w2 v2) : Wrote b w v w2 v2 := by
 refine ⟨h.kp.call k.kp fun i hi => ?_, fun i hi => ?_⟩
 ·rcases hi with hi | hi
  ·exact Or.inl (Or.inl hi)
  ·exact (h.own i hi).imp Or.inr id
 ·rcases k.own i hi with h1 | h1
  ·exact h.own i h1
  ·exact Or.inr (Nat.le_trans h.kp.size h1)
theorem Wrote.kept {b : Nat} {w w' : World} {v v' : Value} (h : Wrote b w v w' v') {k : Nat} (hk : k < w.heap.size) (hb : k ≠ b) (hv : v.ownBlock ≠ some k) : w'.heap[k]? = w.heap[k]? ∧ v'.ownBlock ≠ some k ∧ k < w'.heap.size :=
 ⟨h.kp.block k hk (fun e => e.elim hb hv), fun e => (h.own k e).elim hv (fun h => by omega), Nat.lt_of_lt_of_le hk h.kp.size⟩
theorem Wrote.below {b B : Nat} {w w' : World} {v v' : Value} (h : Wrote b w v w' v') (hB : B ≤ w.heap.size) (hb : B ≤ b) (hv : ∀ k, v.ownBlock = some k → B ≤ k) : Below B w w' :=
 h.kp.below hB fun k hk => hk.elim (fun e => e ▸ hb) (fun e => hv k e)
theorem Wrote.alloc {b : Nat} {w w' : World} {v v' : Value} (o : Obj) (h : Wrote b (w.alloc o) v w' v') : Wrote b w v w' v' := by
 have h0 : Wrote b w v (w.alloc o) v := ⟨(Kp.refl _ _).alloc o, fun _ h => Or.inl h⟩
 exact h0.trans h
theorem Wrote.later {b : Nat} {w w1 w' : World} {v v' : Value} (hb : Below w.heap.size w w1) (h : Wrote b w1 v w' v') : Wrote b w v w' v' := by
 have h0 : Wrote b w v w1 v := ⟨Kp.of_below hb, fun _ h => Or.inl h⟩
 exact h0.trans h
section
variable {B b : Nat} {T : TypeId} {w w' : World} {v : Value} {s : St}
theorem WR.lt (h : WR B b T w v s) : b < w.heap.size := h.cells.lt
theorem WR.vlow (h : WR B b T w v s) {k : Nat} (hk : v.ownBlock = some k) : B ≤ k ∧ k < w.heap.size := own_lt h.own hk
theorem WR.later (h : WR B b T w v s) (hb : Below w.heap.size w w') : WR B b T w' v s :=
 ⟨h.base, (hb.block _ h.lt).trans h.cells, own_kept h.own hb, h.apart, h.short, h.low⟩
theorem WR.slice (h : WR B b T w v s) : ∃ a c, v = .slice a s.text.length c := by
 rcases h.own.2 with ⟨hv, h0⟩ | ⟨g, cap, cur, hv, _⟩
 ·exact ⟨none, 0, by rw [hv, h0]⟩
 ·exact ⟨_, _, hv⟩
theorem WR.refuse (h : WR B b T w v s) (r : Bool) : WR B b T (w.setCell ⟨b, 2, none⟩ (.bool r)) v { s with refused := r } ∧ Wrote b w v (w.setCell ⟨b, 2, none⟩ (.bool r)) v := by
 refine ⟨⟨h.base, (h.cells.set 2 (.bool r)).cast rfl, own_of_block h.own fun k hk => Below.heap_setCell _ _ _ _ (fun e => h.apart (by have : k = b := e; rw [← this]; exact hk)), h.apart, h.short, h.low⟩, (Kp.refl _ _).setCell (p := ⟨b, 2, none⟩) (Or.inl (Or.inl rfl)) _, fun _ h => Or.inl h⟩
theorem WR.opened (h : WR B b T w v s) (n : Nat) (hn : n ≤ 9) : WR B b T (w.setCell ⟨b, 1, none⟩ (.int .i64 (n : Nat))) v { s with opn := n } ∧ Wrote b w v (w.setCell ⟨b, 1, none⟩ (.int .i64 (n : Nat))) v := by
 refine ⟨⟨h.base, (h.cells.set 1 (.int .i64 (n : Nat))).cast rfl, own_of_block h.own fun k hk => Below.heap_setCell _ _ _ _ (fun e => h.apart (by have : k = b := e; rw [← this]; exact hk)), h.apart, h.short, hn⟩, (Kp.refl _ _).setCell (p := ⟨b, 1, none⟩) (Or.inl (Or.inl rfl)) _, fun _ h => Or.inl h⟩
end
def Step (B b : Nat) (T : TypeId) (w : World) (v : Value) (s' : St) (w' : World) : Prop := ∃ v', WR B b T w' v' s' ∧ Wrote b w v w' v'
theorem byteInfo : (Tryz.prog.info? 5).map (fun i => (i.zero, i.size, i.bytes)) = some (some (.int .u8 0), 1, 1) := by kernel_rfl
theorem append_str {P : Program} (w : World) (base : Nat) (t u ty e : TypeId) (i : TypeInfo) (ht : P.underlying t = some (.slice e)) (hu : P.underlying u = some .string) (hi : P.info? e = some i) (hz : i.zero = some (.int .u8 0))
  (hsize : i.size = 1) (hby : i.bytes = 1) (v : Value) (n : Nat) (xs : List Value) (hown : w.ownsRow base e 1 v n xs) (s : ByteArray) (hbytes : n + s.size ≤ 140737488355328) (hbase : base ≤ w.heap.size) :
  ∃ v' w', (Builtin.append_ #[t, u] ty #[v, .string s]).run P w = .ok v' w' ∧ w'.ownsRow base e 1 v' (n + s.size) (xs ++ Lib.strCells s) ∧ w.grownBy w' v.ownBlock ∧ ∀ k, v'.ownBlock = some k → v.ownBlock = some k ∨ w.heap.size ≤ k := by
 have h63 : n + s.size ≤ maxLen := by unfold maxLen; omega
 obtain ⟨v', w', hr, h2, h3, _⟩ := Lib.run_append_own_string (P := P) w base t u ty e i ht hu hi hz hsize hby v n xs hown s h63 hbytes hbase
 refine ⟨v', w', hr, h2, h3, fun k hk => ?_⟩
 rcases hown.2 with ⟨rfl, h0⟩ | ⟨g, cap, cur, rfl, hbg, hg, hnc, hcm, hcs, htake⟩
 ·have hx : xs = [] := List.eq_nil_of_length_eq_zero (by rw [hown.1, h0, Nat.zero_mul])
  subst h0 hx
  obtain ⟨v2, w2, hr2, k2, _, _⟩ := Lib.run_append_own_string (P := P) w w.heap.size t u ty e i ht hu hi hz hsize hby _ 0 [] (World.ownsRow_nil w w.heap.size e 1) s h63 hbytes (Nat.le_refl _)
  rw [hr] at hr2
  injection hr2 with e1 e2
  subst e1 e2
  exact Or.inr (own_lt k2 hk).1
 ·by_cases hroom : n + s.size ≤ cap
  ·have hr2 := Lib.run_append_room_string (P := P) w t u ty e i ht hu hi hsize g n cap cur hg s hroom (by omega)
   rw [hr] at hr2
   injection hr2 with e1 e2
   subst e1
   exact Or.inl hk
  ·have holds : ∀ j u, xs[j]? = some u → w.cell? ((⟨g, 0, none⟩ : Addr).add j) = some u := hown.cells (g := g) rfl
   have hr2 := Lib.run_append_grow_string (P := P) w t u ty e i (.int .u8 0) ht hu hi hz ⟨g, 0, none⟩ n cap xs (by rw [hsize, hown.1]) holds s (by omega) (by omega) (by rw [hby]; exact growslice_fits (by omega) (by omega))
   rw [hr] at hr2
   injection hr2 with e1 e2
   subst e1
   injection hk with hk
   exact Or.inr (Nat.le_of_eq hk)
theorem wpList_append_str {P : Program} {w : World} {ops : Array Oper} {rest : List Oper} {o : Oper} {a : Act} {Q : Exit → Act → World → Prop} (hgd : o.guard = none) (sl x : Operand) (t u : TypeId)
  (ho : o.op = .call { callee := .builtin .append, args := #[sl, x], argTypes := #[t, u] })
  (base : Nat) (e : TypeId) (i : TypeInfo) (ht : P.underlying t = some (.slice e)) (hu : P.underlying u = some .string) (hi : P.info? e = some i) (hz : i.zero = some (.int .u8 0))
  (hsize : i.size = 1) (hby : i.bytes = 1)
  (v : Value) (n : Nat) (xs : List Value) (hs : a.eval sl = v) (hown : w.ownsRow base e 1 v n xs) (s : ByteArray) (hx : a.eval x = .string s)
  (hbytes : n + s.size ≤ 140737488355328) (hbase : base ≤ w.heap.size)
  (h : ∀ v' w', w'.ownsRow base e 1 v' (n + s.size) (xs ++ Lib.strCells s) → w.grownBy w' v.ownBlock → (∀ k, v'.ownBlock = some k → v.ownBlock = some k ∨ w.heap.size ≤ k) → wpList P ops Q rest (a.put o.dst v') w') : wpList P ops Q (o :: rest) a w := by
 refine wpList_plain hgd fun K hK => ?_
 obtain ⟨v', w', hr, h2, h3, h4⟩ := append_str (P := P) w base t u o.type e i ht hu hi hz hsize hby v n xs hown s hbytes hbase
 unfold Oper.wp execOp
 simp only [ho, resolve, invoke, builtin, Sem.run_bind, Sem.run_pure, Result.andThen_ok, List.map_toArray, List.map_cons, List.map_nil, hs, hx, hr]
 exact hK _ _ (h v' w' h2 h3 h4)
theorem WR.grown {B b : Nat} {T : TypeId} {w w' : World} {v v' : Value} {s : St} {p : List UInt8} (h : WR B b T w v s) (hp : p.length ≤ 90) (hs : s.text.length ≤ 20000)
  (ho : w'.ownsRow B 5 1 v' (s.text.length + (⟨p.toArray⟩ : ByteArray).size) (Lib.byteCells s.text ++ Lib.strCells ⟨p.toArray⟩)) (hg : w.grownBy w' v.ownBlock) (hv : ∀ k, v'.ownBlock = some k → v.ownBlock = some k ∨ w.heap.size ≤ k) :
  WR B b T (w'.setCell ⟨b, 0, none⟩ v') v' (putS p s) ∧ Wrote b w v (w'.setCell ⟨b, 0, none⟩ v') v' := by
 have e : putS p s = { s with text := s.text ++ p } := by unfold putS; rw [if_pos hs]
 have hlt := h.lt
 have hv' : v'.ownBlock ≠ some b := fun e => (hv b e).elim h.apart (fun h => by omega)
 have hb : Blk w' b T [v, .int .i64 (s.opn : Nat), .bool s.refused] := (hg.block b hlt (fun e => h.apart e.symm)).trans h.cells
 rw [e]
 refine ⟨⟨h.base, (hb.set 0 v').cast rfl, ?_, hv', by show (s.text ++ p).length ≤ _; rw [List.length_append]; omega, h.low⟩, ?_, hv⟩
 ·refine own_cast (own_of_block ho fun k hk => Below.heap_setCell _ _ _ _ (fun e => hv' (by have : k = b := e; rw [← this]; exact hk))) ?_ ?_
  ·show _ = (s.text ++ p).length
   rw [List.length_append, size_of_list]
  ·show _ = Lib.byteCells (s.text ++ p)
   rw [Lib.byteCells_append, Lib.strCells_eq]
 ·refine Kp.setCell (p := ⟨b, 0, none⟩) ?_ (Or.inl (Or.inl rfl)) _
  exact ⟨hg.os, hg.tape, hg.output, hg.size, fun k hk hn => hg.block k hk fun e => hn (Or.inr e.symm)⟩
set_option maxRecDepth 100000 in
set_option maxHeartbeats 1000000 in
theorem require_any {B b : Nat} {T : TypeId} (ok : Bool) (w : World) (v : Value) (s : St) (h : WR B b T w v s) :
  Calls Tryz.prog 50 #[.pointer (some ⟨b, 0, none⟩), .bool ok] w fun e w' => e = .returned (.bool ok) ∧ w' = w.setCell ⟨b, 2, none⟩ (.bool (s.refused || !ok)) := by
 have c2 := h.cells.cell (i := 2) rfl
 have f2 := h.cells.free 2
 clear h
 cases hr : s.refused with
 | false =>
  rw [hr] at c2
  go_enter Tryz.func50, Tryz.ntmps50
  go_wp2
  go_ret
  exact ⟨rfl, rfl⟩
 | true =>
  rw [hr] at c2
  go_enter Tryz.func50, Tryz.ntmps50
  go_wp2
  go_ret
  exact ⟨rfl, rfl⟩
theorem requireS_step {B b : Nat} {T : TypeId} {w : World} {v : Value} {s : St} (h : WR B b T w v s) (ok : Bool) : WR B b T (w.setCell ⟨b, 2, none⟩ (.bool (s.refused || !ok))) v (requireS ok s) ∧ Wrote b w v (w.setCell ⟨b, 2, none⟩ (.bool (s.refused || !ok))) v := h.refuse _
set_option maxRecDepth 100000 in
set_option maxHeartbeats 4000000 in
theorem put_any {B b : Nat} {T : TypeId} (x y : List UInt8) (hx : x.length ≤ 90) (hy : y.length ≤ 90) (q : Nat) (w : World) (v : Value) (s : St) (h : WR B b T w v s)
  (hqb : q ≠ b) (hqv : v.ownBlock ≠ some q) (hq : Blk w q 9 [.string ⟨x.toArray⟩, .string ⟨y.toArray⟩]) (hB : B ≤ w.heap.size) :
  Calls Tryz.prog 64 #[.pointer (some ⟨b, 0, none⟩), .slice (some ⟨q, 0, none⟩) 2 2] w fun e w' => e = .returned (.tuple #[]) ∧ Step B b T w v (putS y (putS x s)) w' := by
 obtain ⟨i0, hi, hz0, hz1, hz2⟩ := info_parts byteInfo
 have HW := hid h; have HQ := hid hq; have HX := hid hx; have HY := hid hy; have HQB := hid hqb; have HQV := hid hqv; have HBW := hid hB
 clear h hq hx hy hqb hqv hB
 go_enter Tryz.func64, Tryz.ntmps64
 go_wp2
 go_loopw [8] (fun i wr => ∃ (k : Nat) (vo : Value), i = .int .i64 k ∧ k ≤ 2 ∧ Hid (WR B b T wr vo (([x, y].take k).foldl (fun s p => putS p s) s)) ∧ Hid (Wrote b w v wr vo)) (fun i _ => 2 - (intOf i).toNat)
 case atStart => exact ⟨0, v, rfl, by omega, HW, hid (Wrote.refl _ _ _)⟩
 case round =>
  obtain ⟨k, vo, rfl, hk, HV, HR⟩ := hrel
  by_cases hk2 : k < 2
  ·obtain ⟨p, hp, hpl⟩ : ∃ p, [x, y][k]? = some p ∧ p.length ≤ 90 := by
    match k, hk2 with
    | 0, _ => exact ⟨x, rfl, HX.out⟩
    | 1, _ => exact ⟨y, rfl, HY.out⟩
   have hkept := HR.out.kept HQ.out.lt HQB.out HQV.out
   have hq1 : Blk wr q 9 [.string ⟨x.toArray⟩, .string ⟨y.toArray⟩] := hkept.1.trans HQ.out
   have dq : wr.cell? ⟨q, k, none⟩ = some (.string ⟨p.toArray⟩) := by
    match k, hk2, hp with
    | 0, _, hp => cases hp; exact hq1.cell rfl
    | 1, _, hp => cases hp; exact hq1.cell rfl
   have hst : ([x, y].take (k + 1)).foldl (fun s p => putS p s) s = putS p (([x, y].take k).foldl (fun s p => putS p s) s) := by
    match k, hk2, hp with
    | 0, _, hp => cases hp; rfl
    | 1, _, hp => cases hp; rfl
   obtain ⟨t, ht⟩ : ∃ t, ([x, y].take k).foldl (fun s p => putS p s) s = t := ⟨_, rfl⟩
   rw [ht] at hst HV
   obtain ⟨a, c, rfl⟩ := HV.out.slice
   obtain ⟨n, hn⟩ : ∃ n, t.text.length = n := ⟨_, rfl⟩
   have c0 := HV.out.cells.cell (i := 0) rfl
   have f0 := HV.out.cells.free 0
   rw [hn] at c0
   have hki : (0 : Int) ≤ k ∧ (k : Int) < 2 := by omega
   have hown : wr.ownsRow B 5 1 (.slice a n c) n (Lib.byteCells t.text) := by rw [← hn]; exact HV.out.own
   have HO := hid hown
   replace HV : Hid (WR B b T wr (.slice a n c) t) := hid (by rw [← hn]; exact HV.out)
   replace HR : Hid (Wrote b w v wr (.slice a n c)) := hid (by rw [← hn]; exact HR.out)
   have hpl2 : (p.toArray.size : Nat) = p.length := by simp
   have HST := hid hst; have HN := hid hn; have HPL := hid hpl
   clear hp hkept hq1 hst hn hpl hpl2 ht hown
   by_cases hle : n ≤ 20000
   ·have hle' : decide ((n : Int) ≤ 20000) = true := by rw [decide_eq_true_eq]; omega
    go_wp2_with (at_builtin; refine wpList_append_str rfl _ _ 78 9 rfl B 5 i0 Tryz.underlying78 Tryz.underlying9 hi hz0 hz1 hz2 _ _ _ rfl HO.out ⟨p.toArray⟩ rfl ?room ?base ?_)
    case room => have := HPL.out; rw [size_of_list]; omega
    case base => exact Nat.le_trans HBW.out HR.out.kp.size
    intro v' w2 hown2 hgrow hor
    obtain ⟨hw3, hr3⟩ := HV.out.grown HPL.out (by rw [HN.out]; exact hle) (by rw [HN.out]; exact hown2) hgrow hor
    have HW3 := hid hw3; have HR3 := hid (HR.out.trans hr3)
    have d0 : ∃ u, w2.cell? ⟨b, 0, none⟩ = some u := by
     have hb2 := (hgrow.block b HV.out.lt (fun e => HV.out.apart e.symm)).trans HV.out.cells
     exact ⟨_, Blk.cell (i := 0) hb2 rfl⟩
    have e0 : w2.frozen? ⟨b, 0, none⟩ = false := by
     have hb2 := (hgrow.block b HV.out.lt (fun e => HV.out.apart e.symm)).trans HV.out.cells
     exact Blk.free hb2 0
    obtain ⟨u0, d0⟩ := d0
    have hone : v'.oneCell' = true := by
     rcases hown2.2 with ⟨rfl, _⟩ | ⟨g, cp, cur, rfl, _⟩ <;> rfl
    obtain ⟨a2, n2, c2, rfl⟩ : ∃ a2 n2 c2, v' = .slice a2 n2 c2 := by
     rcases hown2.2 with ⟨rfl, _⟩ | ⟨g, cp, cur, rfl, _⟩ <;> exact ⟨_, _, _, rfl⟩
    clear hown2 hgrow hor hw3 hr3 HO c0 f0
    go_wp2
    go_roundw
    case rel => exact ⟨k + 1, _, by go_num, by omega, by rw [HST.out]; exact HW3, HR3⟩
    case measure => simp [intOf]; omega
   ·have hle' : decide ((n : Int) ≤ 20000) = false := by rw [decide_eq_false_iff_not]; omega
    have hsame : putS p t = t := by unfold putS; rw [if_neg (by rw [HN.out]; exact hle)]
    have HSM := hid hsame
    clear hsame HO
    go_wp2
    go_roundw
    case rel => exact ⟨k + 1, _, by go_num, by omega, by rw [HST.out, HSM.out]; exact HV, HR⟩
    case measure => simp [intOf]; omega
  ·have hk3 : k = 2 := by omega
   subst hk3
   go_wp2
   go_end0
   exact ⟨rfl, _, HV.out, HR.out⟩
end Go.Proofs.YtilfpnkcgjonhaaGreatDoor.Pr
