/-
  The law's own examples: they hold.
-/
import Derived.Test.YtdjilieadhnhcaaDoorWalkSplit
import Derived.Test.YtdjilieadhnhcaaDoorWalkParse
namespace Go.Proofs.YtdjilieadhnhcaaDoor
open Go.RowKit Go.Sort Go.Shelf Foyer.Money

/-! ### The examples -/
theorem ex_share1 : shareS 5 1 2 = (2, 0) := by decide +kernel
theorem ex_share2 : shareS 7 1 2 = (4, 0) := by decide +kernel
theorem ex_share3 : shareS (-5) 1 2 = (-2, 0) := by decide +kernel
theorem ex_split1 : splitS 100 [1, 1, 1] = [34, 33, 33] := by decide +kernel
theorem ex_split2 : splitS (-100) [1, 1, 1] = [-34, -33, -33] := by decide +kernel
theorem ex_split3 : splitS 5 [0, 3, 1] = [0, 4, 1] := by decide +kernel
theorem dec12 : Lib.decDigits 12 = [49, 50] := by rw [dec_big (by omega), dec_small (by omega)]; rfl
theorem dec0 : Lib.decDigits 0 = [48] := by rw [dec_small (by omega)]; rfl
theorem ex_text1 : text 1205 = [49, 50, 46, 48, 53] := by
  have e : text 1205 = bare 1205 := by unfold text; rw [if_pos (by decide +kernel), if_neg (by decide)]; rfl
  rw [e, bare_eq, show (1205 : Nat) / 100 = 12 from rfl, dec12]; rfl
theorem ex_text2 : text (-50) = [45, 48, 46, 53, 48] := by
  have e : text (-50) = 45 :: bare 50 := by unfold text; rw [if_pos (by decide +kernel), if_pos (by decide)]; rfl
  rw [e, bare_eq, show (50 : Nat) / 100 = 0 from rfl, dec0]; rfl
theorem ex_text3 : text 0 = [48, 46, 48, 48] := by
  have e : text 0 = bare 0 := by unfold text; rw [if_pos (by decide +kernel), if_neg (by decide)]; rfl
  rw [e, bare_eq, show (0 : Nat) / 100 = 0 from rfl, dec0]; rfl
theorem ex_parse1 : parse [49, 50, 46, 48, 53] = (1205, 0) := by rw [← ex_text1]; exact parse_text (by decide +kernel)
theorem ex_parse2 : parse [45, 48, 46, 48, 48] = (0, 4) := by
  have e : Lib.atoi ((Lib.cut [45, 48, 46, 48, 48] [46]).1 ++ (Lib.cut [45, 48, 46, 48, 48] [46]).2.1) = some 0 := by decide +kernel
  unfold parse; rw [if_neg (by decide), e]; simp only [ex_text3]; rfl

/-! ### Rows that a call has made -/
theorem own_kept {w w' : World} {B e s n : Nat} {v : Value} {xs : List Value} (h : w.ownsRow B e s v n xs) (hb : RowKit.Below w.heap.size w w') : w'.ownsRow B e s v n xs := by
  cases v with
  | slice a m c =>
    refine h.kept (grown_of_below hb) ?_
    cases a with
    | none => exact Or.inl rfl
    | some a => exact Or.inr (by simp [Value.ownBlock])
  | _ => exact h.kept (grown_of_below hb) (Or.inl rfl)
theorem rd_of_own {w : World} {B g n cap : Nat} {zs : List Int} (h : w.ownsRow B 3 1 (.slice (some ⟨g, 0, none⟩) n cap) n (zs.map (Value.int .i64))) (hn : zs.length = n) : Rd w (some ⟨g, 0, none⟩) zs := by
  refine Or.inr ⟨g, 0, rfl, (h.lt _ rfl).2, fun j hj => ?_⟩
  rw [Nat.zero_add, h.cellAt j (by omega), List.getElem?_map, List.getElem?_eq_getElem hj]
  simp [hj]

theorem share_c (n num den a : Int) (w : World) (h : shareS n num den = (a, 0)) :
    Calls Tryd.prog 13 #[.int .i64 n, .agg #[.int .i64 num, .int .i64 den]] w fun e w' => e = .returned (.tuple #[.int .i64 a, .int .i64 0]) ∧ RowKit.Below w.heap.size w w' := by
  have := share_any n num den w
  rw [h] at this; exact this
theorem split_c (n : Int) (ws zs : List Int) (k : Nat) (p : Option Addr) (cap : Nat) (w : World) (h : (valid n && vWeights ws) = true) (hz : splitS n ws = zs) (hk : ws.length = k) (hr : Rd w p ws) (hl : k ≤ 1000) :
    Calls Tryd.prog 15 #[.int .i64 n, .slice p k cap] w fun e w' => ∃ g : Nat, e = .returned (.tuple #[.slice (some ⟨g, 0, none⟩) k k, .int .i64 0]) ∧
      w'.ownsRow w.heap.size 3 1 (.slice (some ⟨g, 0, none⟩) k k) k (zs.map (Value.int .i64)) ∧ RowKit.Below w.heap.size w w' := by
  subst hk
  subst hz
  exact split_ok n ws p cap w h hr hl
theorem parse_c (s : List UInt8) (n e0 : Int) (w : World) (h : parse s = (n, e0)) (hE : Env w) :
    Calls Tryd.prog 17 #[.string ⟨s.toArray⟩] w fun e w' => e = .returned (.tuple #[.int .i64 n, .int .i64 e0]) ∧ RowKit.Below w.heap.size w w' := by
  have := parse_any ⟨s.toArray⟩ w hE
  rw [show (⟨s.toArray⟩ : ByteArray).data.toList = s from rfl, h] at this
  exact this
theorem text_c (n : Int) (s : List UInt8) (w : World) (h : text n = s) (hE : Env w) :
    Calls Tryd.prog 22 #[.int .i64 n] w fun e w' => e = .returned (.string ⟨s.toArray⟩) ∧ RowKit.Below w.heap.size w w' := by
  have := text_any n w hE
  rw [h] at this; exact this
theorem ints_c (zs : List Int) (k : Nat) (p q : Option Addr) (c1 c2 : Nat) (w : World) (hx : Rd w p zs) (hy : Rd w q zs) (hk : zs.length = k) (hl : k ≤ 1000) :
    Calls Tryd.prog 19 #[.slice p k c1, .slice q k c2] w fun e w' => e = .returned (.bool true) ∧ RowKit.Below w.heap.size w w' := by
  subst hk
  refine (ints_any zs zs p q c1 c2 w hx hy hl hl).mono fun e w' ⟨he, n, hw⟩ => ⟨by rw [he]; simp, ?_⟩
  rw [hw]; exact below_drewN (RowKit.Below.refl _ _) n

theorem rd_three (w : World) (a b c : Int) (T : TypeId) : Rd (w.alloc (.cells #[.int .i64 a, .int .i64 b, .int .i64 c] T)) (some ⟨w.heap.size, 0, none⟩) [a, b, c] := by
  refine Or.inr ⟨w.heap.size, 0, rfl, by simp, fun j hj => ?_⟩
  match j, hj with
  | 0, _ => simp
  | 1, _ => simp
  | 2, _ => simp

/-- The call's beginning and a world behind it. -/
def Since (w w' : World) : Prop := RowKit.Below w.heap.size w w'
theorem Since.call {w w1 w2 : World} (h : Since w w1) (hb : RowKit.Below w1.heap.size w1 w2) : Since w w2 := RowKit.Below.trans h (hb.mono h.size)
theorem Since.alloc {w w1 : World} (h : Since w w1) (o : Obj) : Since w (w1.alloc o) := RowKit.Below.alloc h h.size o
theorem own_alloc {w : World} {B e s n : Nat} {v : Value} {xs : List Value} (h : w.ownsRow B e s v n xs) (o : Obj) : (w.alloc o).ownsRow B e s v n xs := h.alloc o

set_option maxRecDepth 100000 in
set_option maxHeartbeats 2000000 in
theorem head_any (w : World) (hE : Env w) : Calls Tryd.prog 10 #[] w fun e w' => e = .returned (.bool true) ∧ RowKit.Below w.heap.size w w' := by
  have HE := Lib.hid hE; clear hE
  have HS : Hid (Since w w) := RowKit.Below.refl _ _
  go_enter Tryd.func10, Tryd.ntmps10
  go_wp2_with fail
  refine (share_c _ _ _ _ _ ex_share1).mono ?_; rintro e w1 ⟨rfl, hb1⟩
  have hc0 : w1.cell? ⟨w.heap.size, 0, none⟩ = some (.int .i64 1) := by rw [hb1.cell (by simp)]; simp
  have hc1 : w1.cell? ⟨w.heap.size, 1, none⟩ = some (.int .i64 2) := by rw [hb1.cell (by simp)]; simp
  have HS := Lib.hid ((HS.out.alloc _).call hb1)
  clear hb1
  go_wp2_with fail
  refine (share_c _ _ _ _ _ ex_share2).mono ?_; rintro e w2 ⟨rfl, hb2⟩
  have hd0 : w2.cell? ⟨w.heap.size, 0, none⟩ = some (.int .i64 1) := by rw [hb2.cell (Lib.lt_of_cell hc0)]; exact hc0
  have hd1 : w2.cell? ⟨w.heap.size, 1, none⟩ = some (.int .i64 2) := by rw [hb2.cell (Lib.lt_of_cell hc1)]; exact hc1
  have HS := Lib.hid (HS.out.call hb2)
  clear hb2 hc0 hc1
  go_wp2_with fail
  refine (share_c _ _ _ _ _ ex_share3).mono ?_; rintro e w3 ⟨rfl, hb3⟩
  have HS := Lib.hid (HS.out.call hb3)
  clear hb3 hd0 hd1
  -- the splits
  go_wp2_with fail
  refine (split_c 100 [1, 1, 1] [34, 33, 33] 3 _ _ _ (by decide +kernel) ex_split1 rfl (rd_three _ _ _ _ _) (by decide)).mono ?_; rintro e w4 ⟨g1, rfl, hown1, hb4⟩
  have HS := Lib.hid ((HS.out.alloc _).call hb4)
  have HO1 := Lib.hid hown1
  clear hb4 hown1
  go_wp2_with fail
  refine (split_c (-100) [1, 1, 1] [-34, -33, -33] 3 _ _ _ (by decide +kernel) ex_split2 rfl (rd_three _ _ _ _ _) (by decide)).mono ?_; rintro e w5 ⟨g2, rfl, hown2, hb5⟩
  have HO1 := Lib.hid (own_kept (own_alloc HO1.out _) hb5)
  have HS := Lib.hid ((HS.out.alloc _).call hb5)
  have HO2 := Lib.hid hown2
  clear hb5 hown2
  go_wp2_with fail
  refine (split_c 5 [0, 3, 1] [0, 4, 1] 3 _ _ _ (by decide +kernel) ex_split3 rfl (rd_three _ _ _ _ _) (by decide)).mono ?_; rintro e w6 ⟨g3, rfl, hown3, hb6⟩
  have HO1 := Lib.hid (own_kept (own_alloc HO1.out _) hb6)
  have HO2 := Lib.hid (own_kept (own_alloc HO2.out _) hb6)
  have HS := Lib.hid ((HS.out.alloc _).call hb6)
  have HO3 := Lib.hid hown3
  clear hb6 hown3
  -- the texts that are read
  go_wp2_with fail
  refine (parse_c [49, 50, 46, 48, 53] 1205 0 _ ex_parse1 (HE.out.below HS.out)).mono ?_; rintro e w7 ⟨rfl, hb7⟩
  have HO1 := Lib.hid (own_kept HO1.out hb7)
  have HO2 := Lib.hid (own_kept HO2.out hb7)
  have HO3 := Lib.hid (own_kept HO3.out hb7)
  have HS := Lib.hid (HS.out.call hb7)
  clear hb7
  go_wp2_with fail
  refine (parse_c [45, 48, 46, 48, 48] 0 4 _ ex_parse2 (HE.out.below HS.out)).mono ?_; rintro e w8 ⟨rfl, hb8⟩
  have HO1 := Lib.hid (own_kept HO1.out hb8)
  have HO2 := Lib.hid (own_kept HO2.out hb8)
  have HO3 := Lib.hid (own_kept HO3.out hb8)
  have HS := Lib.hid (HS.out.call hb8)
  clear hb8
  go_wp2_with fail
  refine (ints_c [34, 33, 33] 3 _ _ _ _ _ (rd_of_own (own_alloc HO1.out _) rfl) (rd_three _ _ _ _ _) rfl (by decide)).mono ?_; rintro e w9 ⟨rfl, hb9⟩
  have HO2 := Lib.hid (own_kept (own_alloc HO2.out _) hb9)
  have HO3 := Lib.hid (own_kept (own_alloc HO3.out _) hb9)
  have HS := Lib.hid ((HS.out.alloc _).call hb9)
  clear hb9
  go_wp2_with fail
  refine (ints_c [-34, -33, -33] 3 _ _ _ _ _ (rd_of_own (own_alloc HO2.out _) rfl) (rd_three _ _ _ _ _) rfl (by decide)).mono ?_; rintro e w10 ⟨rfl, hb10⟩
  have HO3 := Lib.hid (own_kept (own_alloc HO3.out _) hb10)
  have HS := Lib.hid ((HS.out.alloc _).call hb10)
  clear hb10
  go_wp2_with fail
  refine (ints_c [0, 4, 1] 3 _ _ _ _ _ (rd_of_own (own_alloc HO3.out _) rfl) (rd_three _ _ _ _ _) rfl (by decide)).mono ?_; rintro e w11 ⟨rfl, hb11⟩
  have HS := Lib.hid ((HS.out.alloc _).call hb11)
  clear hb11
  -- the texts
  go_wp2_with fail
  refine (text_c 1205 _ _ ex_text1 (HE.out.below HS.out)).mono ?_; rintro e w12 ⟨rfl, hb12⟩
  have HS := Lib.hid (HS.out.call hb12)
  clear hb12
  go_wp2_with fail
  refine (text_c (-50) _ _ ex_text2 (HE.out.below HS.out)).mono ?_; rintro e w13 ⟨rfl, hb13⟩
  have HS := Lib.hid (HS.out.call hb13)
  clear hb13
  go_wp2_with fail
  refine (text_c 0 _ _ ex_text3 (HE.out.below HS.out)).mono ?_; rintro e w14 ⟨rfl, hb14⟩
  have HS := Lib.hid (HS.out.call hb14)
  clear hb14
  go_wp2_with fail
  refine (valid_no 1000000001 _ (by decide +kernel)).mono ?_; rintro e w15 ⟨rfl, rfl⟩
  go_wp2
  go_ret
  exact ⟨rfl, HS.out⟩
end Go.Proofs.YtdjilieadhnhcaaDoor
