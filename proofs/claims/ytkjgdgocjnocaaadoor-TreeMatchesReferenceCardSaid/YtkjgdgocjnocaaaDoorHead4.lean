/-
  The law's own examples of layer 4: they hold.
-/
import Derived.Test.YtkjgdgocjnocaaaDoorWalkPath
import Derived.Test.YtkjgdgocjnocaaaDoorWalkCheck
import Derived.Test.YtkjgdgocjnocaaaDoorLawNode
namespace Go.Proofs.YtkjgdgocjnocaaaDoor
open Go.RowKit Go.Sort Foyer.Digest Foyer.Tree

theorem root_c (l : List (List UInt8)) (m : List UInt8) (h : root l = m) (p : Option Addr) (n cap : Nat) (w : World) (hr : RdS w p l) (hn : l.length = n) (hl : n ≤ 100000) (ht : ∀ t ∈ l, t.length ≤ 1000000) (hE : Env w) :
    Calls Tryd.prog 13 #[.slice p n cap] w fun e w' => e = .returned (.string ⟨m.toArray⟩) ∧ Below w.heap.size w w' := by
  rw [← h]; exact root_any l p n cap w hr hn hl ht hE
/-- A path, as a slice that is read. -/
theorem path_c (l ps : List (List UInt8)) (k : Nat) (p : Option Addr) (n cap i : Nat) (h : path l i = ps) (hk : ps.length = k) (w : World) (hr : RdS w p l) (hn : l.length = n) (hl : n ≤ 100000) (ht : ∀ t ∈ l, t.length ≤ 1000000) (hi : i < n) (hE : Env w) :
    Calls Tryd.prog 11 #[.slice p n cap, .int .i64 i] w fun e w' => ∃ q c, e = .returned (.tuple #[.slice q k c, .int .i64 0]) ∧ RdS w' q ps ∧ k ≤ c ∧ OwnS w' w.heap.size (.slice q k c) ps ∧ Below w.heap.size w w' :=
  (path_any l p n cap i w hr hn hl ht hi hE).mono fun e w' ⟨v, he, ho, hb⟩ => by
    rw [h] at ho
    obtain ⟨q, c, hv, hrd, _⟩ := ho.slice
    rw [hk] at hv
    refine ⟨q, c, by rw [he, hv], hrd, ?_, by rw [← hv]; exact ho, hb⟩
    rcases ho.2 with ⟨e1, e2⟩ | ⟨g, cap', cur, e1, _, _, hc, _⟩
    · rw [← hk]; omega
    · rw [e1] at hv
      simp only [Value.slice.injEq] at hv
      obtain ⟨_, h2, rfl⟩ := hv
      omega
theorem check_c (r t : List UInt8) (n i : Int) (ps : List (List UInt8)) (b : Bool) (h : check r n i t ps = b) (q : Option Addr) (len cap : Nat) (w : World) (ht : t.length ≤ 1000000) (hp : ∀ p ∈ ps, p.length ≤ 1000000) (hpl : ps.length = len) (hl : len ≤ 1000000) (hcap : len ≤ cap)
    (hn : n ≤ 9223372036854775807) (hr : RdS w q ps) (hE : Env w) :
    Calls Tryd.prog 16 #[.string ⟨r.toArray⟩, .int .i64 n, .int .i64 i, .string ⟨t.toArray⟩, .slice q len cap] w fun e w' => e = .returned (.bool b) ∧ Below w.heap.size w w' := by
  rw [← h]; exact tcheck_any r t n i ps q len cap w ht hp hpl hl hcap hn hr hE

def tA : List UInt8 := [97]
def tB : List UInt8 := [98]
def tC : List UInt8 := [99]
theorem ex_root : root [tA, tB, tC] = nodeD (nodeD (leafD tA) (leafD tB)) (leafD tC) := root_at (by simp) (k := 2) (by decide) (by decide)
theorem ex_root1 : root [tA] = leafD tA := root_at (by simp) (k := 0) (by decide) (by decide)
theorem ex_path2 : path [tA, tB, tC] 2 = [nodeD (leafD tA) (leafD tB)] := path_at (by decide) (k := 2) (by decide) (by decide)
theorem ex_path0 : path [tA, tB, tC] 0 = [leafD tB, leafD tC] := path_at (by decide) (k := 2) (by decide) (by decide)
theorem ex_check : check (root [tA, tB, tC]) 3 2 tC [nodeD (leafD tA) (leafD tB)] = true := by
  have := complete (l := [tA, tB, tC]) (i := 2) (by decide) (by decide)
  rw [ex_path2] at this
  exact this
theorem ex_check2 : check (root [tA, tB, tC]) 3 1 tC [nodeD (leafD tA) (leafD tB)] = false := by
  show check _ (3 : Nat) (1 : Nat) _ _ = false
  rw [check_nat (by decide)]
  exact refuse (by decide)
theorem ex_differ : (leafD tA == leafD tB) = false := by decide +kernel
theorem ex_check3 : check (nodeD (nodeD (leafD tA) (leafD tB)) (leafD tC)) 3 2 tB [nodeD (leafD tA) (leafD tB)] = false := by decide +kernel

theorem RdS.alloc {w : World} {p : Option Addr} {ls : List (List UInt8)} (h : RdS w p ls) (o : Obj) : RdS (w.alloc o) p ls := h.below (Nat.le_refl _) ((Below.refl _ w).alloc (Nat.le_refl _) o)
theorem rd_take {w : World} {p : Option Addr} {ls : List (List UInt8)} (h : RdS w p ls) (k : Nat) : RdS w p (ls.take k) := by
  rcases h with rfl | ⟨b, off, rfl, hlt, hc⟩
  · exact Or.inl (by simp)
  · refine Or.inr ⟨b, off, rfl, hlt, fun j hj => ?_⟩
    have h1 : j < k ∧ j < ls.length := by rw [List.length_take] at hj; omega
    rw [hc j h1.2]
    simp [List.getD_eq_getElem?_getD, h1.1]

set_option maxRecDepth 100000 in
set_option maxHeartbeats 2000000 in
theorem head_any (w : World) (hE : Env w) : Calls Tryd.prog 9 #[] w fun e w' => e = .returned (.bool true) ∧ Below w.heap.size w w' := by
  have HE := Lib.hid hE; clear hE
  have HS : Hid (Since w w) := Below.refl _ _
  obtain ⟨la, hla⟩ : ∃ m, leafD tA = m := ⟨_, rfl⟩
  obtain ⟨lb, hlb⟩ : ∃ m, leafD tB = m := ⟨_, rfl⟩
  obtain ⟨lc, hlc⟩ : ∃ m, leafD tC = m := ⟨_, rfl⟩
  have e1 := ex_root
  have e2 := ex_root1
  have e3 := ex_path2
  have e4 := ex_path0
  have e5 := ex_check
  have e6 := ex_check2
  have e7 := ex_differ
  have e8 := ex_check3
  have la16 := leafD_length tA
  have lb16 := leafD_length tB
  have lc16 := leafD_length tC
  rw [hla, hlb] at e7 e8
  rw [hla, hlb, hlc] at e1
  rw [hlc] at e8
  rw [hla] at e2 la16
  rw [hla, hlb] at e3 e5 e6
  rw [hlb, hlc] at e4
  rw [hlb] at lb16
  rw [hlc] at lc16
  obtain ⟨nab, hn⟩ : ∃ m, nodeD la lb = m := ⟨_, rfl⟩
  have n16 := nodeD_length la lb
  rw [hn] at e1 e3 e5 e6 e8 n16
  obtain ⟨rt, hrt⟩ : ∃ m, nodeD nab lc = m := ⟨_, rfl⟩
  rw [hrt] at e1 e8
  rw [e1] at e5 e6
  obtain ⟨nn, hnn⟩ : ∃ m, listSum [sNone] = m := ⟨_, rfl⟩
  have HLA := Lib.hid hla; have HLB := Lib.hid hlb; have HLC := Lib.hid hlc; have HN := Lib.hid hn; have HRT := Lib.hid hrt; have HNN := Lib.hid hnn
  have E1 := Lib.hid e1; have E2 := Lib.hid e2; have E3 := Lib.hid e3; have E4 := Lib.hid e4; have E5 := Lib.hid e5; have E6 := Lib.hid e6; have E8 := Lib.hid e8
  have HT : Hid (∀ x ∈ [tA, tB, tC], x.length ≤ 1000000) := three_le (by decide) (by decide) (by decide)
  have e7' : (la != lb) = true := by rw [bne, e7]; rfl
  have HNE : Hid ((⟨la.toArray⟩ : ByteArray) ≠ ⟨lb.toArray⟩) := fun h => by
    have : la = lb := by simpa using h
    subst this; simp at e7
  have e9 : ¬ la = lb := fun h => by subst h; simp at e7
  clear hla hlb hlc hn hrt hnn e1 e2 e3 e4 e5 e6 e8 HNE
  go_enter Tryd.func9, Tryd.ntmps9
  go_wp2_with fail
  have HL := Lib.hid (rd_three w tA tB tC 9)
  have HS := Lib.hid (HS.out.alloc (.cells #[.string ⟨tA.toArray⟩, .string ⟨tB.toArray⟩, .string ⟨tC.toArray⟩] 9))
  refine (leaf_c tC lc HLC.out (by decide) _ (HE.out.below HS.out)).mono ?_; rintro e w1 ⟨rfl, hb1⟩
  have HL := Lib.hid (HL.out.below (Nat.le_refl _) hb1)
  have HS := Lib.hid (HS.out.call hb1); clear hb1
  go_wp2_with fail
  refine (leaf_c tA la HLA.out (by decide) _ (HE.out.below HS.out)).mono ?_; rintro e w2 ⟨rfl, hb2⟩
  have HL := Lib.hid (HL.out.below (Nat.le_refl _) hb2)
  have HS := Lib.hid (HS.out.call hb2); clear hb2
  go_wp2_with fail
  refine (leaf_c tB lb HLB.out (by decide) _ (HE.out.below HS.out)).mono ?_; rintro e w3 ⟨rfl, hb3⟩
  have HL := Lib.hid (HL.out.below (Nat.le_refl _) hb3)
  have HS := Lib.hid (HS.out.call hb3); clear hb3
  go_wp2_with fail
  refine (node_c la lb nab HN.out (by omega) (by omega) _ (HE.out.below HS.out)).mono ?_; rintro e w4 ⟨rfl, hb4⟩
  have HL := Lib.hid (HL.out.below (Nat.le_refl _) hb4)
  have HS := Lib.hid (HS.out.call hb4); clear hb4
  go_wp2_with fail
  refine (node_c nab lc rt HRT.out (by omega) (by omega) _ (HE.out.below HS.out)).mono ?_; rintro e w5 ⟨rfl, hb5⟩
  have HL := Lib.hid (HL.out.below (Nat.le_refl _) hb5)
  have HS := Lib.hid (HS.out.call hb5); clear hb5
  go_wp2_with fail
  refine (path_c [tA, tB, tC] [nab] 1 _ 3 3 2 E3.out rfl _ HL.out rfl (by decide) HT.out (by decide) (HE.out.below HS.out)).mono ?_; rintro e w6 ⟨p1, c1, rfl, hr, hc1, _, hb6⟩
  have HL := Lib.hid (HL.out.below (Nat.le_refl _) hb6)
  have HP := Lib.hid hr; clear hr
  have HS := Lib.hid (HS.out.call hb6); clear hb6
  go_wp2_with fail
  refine (path_c [tA, tB, tC] [lb, lc] 2 _ 3 3 0 E4.out rfl _ HL.out rfl (by decide) HT.out (by decide) (HE.out.below HS.out)).mono ?_; rintro e w7 ⟨p2, c2, rfl, hr, hc2, _, hb7⟩
  have HL := Lib.hid (HL.out.below (Nat.le_refl _) hb7)
  have HP := Lib.hid (HP.out.below (Nat.le_refl _) hb7)
  have HQ := Lib.hid hr; clear hr
  have HS := Lib.hid (HS.out.call hb7); clear hb7
  go_wp2_with fail
  refine (path_bad [tA, tB, tC] _ 3 3 3 _ rfl (by decide) (by decide)).mono ?_; rintro e w8 ⟨rfl, hb8⟩
  have HL := Lib.hid (HL.out.below (Nat.le_refl _) hb8)
  have HP := Lib.hid (HP.out.below (Nat.le_refl _) hb8)
  have HQ := Lib.hid (HQ.out.below (Nat.le_refl _) hb8)
  have HS := Lib.hid (HS.out.call hb8); clear hb8
  go_wp2_with fail
  refine (root_c [tA, tB, tC] rt E1.out _ 3 3 _ HL.out rfl (by decide) HT.out (HE.out.below HS.out)).mono ?_; rintro e w9 ⟨rfl, hb9⟩
  have HL := Lib.hid (HL.out.below (Nat.le_refl _) hb9)
  have HP := Lib.hid (HP.out.below (Nat.le_refl _) hb9)
  have HQ := Lib.hid (HQ.out.below (Nat.le_refl _) hb9)
  have HS := Lib.hid (HS.out.call hb9); clear hb9
  go_wp2_with fail
  refine (root_c [tA] la E2.out _ 1 3 _ (rd_take HL.out 1) rfl (by decide) (one_le (by decide)) (HE.out.below HS.out)).mono ?_; rintro e w10 ⟨rfl, hb10⟩
  have HL := Lib.hid (HL.out.below (Nat.le_refl _) hb10)
  have HP := Lib.hid (HP.out.below (Nat.le_refl _) hb10)
  have HQ := Lib.hid (HQ.out.below (Nat.le_refl _) hb10)
  have HS := Lib.hid (HS.out.call hb10); clear hb10
  go_wp2_with fail
  refine (leaf_c tA la HLA.out (by decide) _ (HE.out.below HS.out)).mono ?_; rintro e w11 ⟨rfl, hb11⟩
  have HL := Lib.hid (HL.out.below (Nat.le_refl _) hb11)
  have HP := Lib.hid (HP.out.below (Nat.le_refl _) hb11)
  have HQ := Lib.hid (HQ.out.below (Nat.le_refl _) hb11)
  have HS := Lib.hid (HS.out.call hb11); clear hb11
  go_wp2_with fail
  refine (root_c [] nn HNN.out none 0 0 _ (Or.inl rfl) rfl (by decide) (fun _ h => by cases h) (HE.out.below HS.out)).mono ?_; rintro e w12 ⟨rfl, hb12⟩
  have HL := Lib.hid (HL.out.below (Nat.le_refl _) hb12)
  have HP := Lib.hid (HP.out.below (Nat.le_refl _) hb12)
  have HQ := Lib.hid (HQ.out.below (Nat.le_refl _) hb12)
  have HS := Lib.hid (HS.out.call hb12); clear hb12
  go_wp2_with fail
  have HS := Lib.hid (HS.out.alloc (.cells #[.string ⟨sNone.toArray⟩] 9))
  have HL := Lib.hid (HL.out.alloc (.cells #[.string ⟨sNone.toArray⟩] 9))
  have HP := Lib.hid (HP.out.alloc (.cells #[.string ⟨sNone.toArray⟩] 9))
  have HQ := Lib.hid (HQ.out.alloc (.cells #[.string ⟨sNone.toArray⟩] 9))
  refine (list_c [sNone] nn 1 rfl HNN.out _ 1 _ (rd_one _ sNone 9) (by decide) (one_le (by decide)) (HE.out.below HS.out)).mono ?_; rintro e w13 ⟨rfl, hb13⟩
  have HL := Lib.hid (HL.out.below (Nat.le_refl _) hb13)
  have HP := Lib.hid (HP.out.below (Nat.le_refl _) hb13)
  have HQ := Lib.hid (HQ.out.below (Nat.le_refl _) hb13)
  have HS := Lib.hid (HS.out.call hb13); clear hb13
  go_wp2_with fail
  refine (leaf_c tA la HLA.out (by decide) _ (HE.out.below HS.out)).mono ?_; rintro e w14 ⟨rfl, hb14⟩
  have HL := Lib.hid (HL.out.below (Nat.le_refl _) hb14)
  have HP := Lib.hid (HP.out.below (Nat.le_refl _) hb14)
  have HQ := Lib.hid (HQ.out.below (Nat.le_refl _) hb14)
  have HS := Lib.hid (HS.out.call hb14); clear hb14
  go_wp2_with fail
  refine (leaf_c tB lb HLB.out (by decide) _ (HE.out.below HS.out)).mono ?_; rintro e w15 ⟨rfl, hb15⟩
  have HL := Lib.hid (HL.out.below (Nat.le_refl _) hb15)
  have HP := Lib.hid (HP.out.below (Nat.le_refl _) hb15)
  have HQ := Lib.hid (HQ.out.below (Nat.le_refl _) hb15)
  have HS := Lib.hid (HS.out.call hb15); clear hb15
  go_wp2_with fail
  refine (leaf_c tA la HLA.out (by decide) _ (HE.out.below HS.out)).mono ?_; rintro e w16 ⟨rfl, hb16⟩
  have HL := Lib.hid (HL.out.below (Nat.le_refl _) hb16)
  have HP := Lib.hid (HP.out.below (Nat.le_refl _) hb16)
  have HQ := Lib.hid (HQ.out.below (Nat.le_refl _) hb16)
  have HS := Lib.hid (HS.out.call hb16); clear hb16
  go_wp2_with fail
  refine (leaf_c tB lb HLB.out (by decide) _ (HE.out.below HS.out)).mono ?_; rintro e w17 ⟨rfl, hb17⟩
  have HL := Lib.hid (HL.out.below (Nat.le_refl _) hb17)
  have HP := Lib.hid (HP.out.below (Nat.le_refl _) hb17)
  have HQ := Lib.hid (HQ.out.below (Nat.le_refl _) hb17)
  have HS := Lib.hid (HS.out.call hb17); clear hb17
  go_wp2_with fail
  refine (node_c la lb nab HN.out (by omega) (by omega) _ (HE.out.below HS.out)).mono ?_; rintro e w18 ⟨rfl, hb18⟩
  have HL := Lib.hid (HL.out.below (Nat.le_refl _) hb18)
  have HP := Lib.hid (HP.out.below (Nat.le_refl _) hb18)
  have HQ := Lib.hid (HQ.out.below (Nat.le_refl _) hb18)
  have HS := Lib.hid (HS.out.call hb18); clear hb18
  go_wp2_with fail
  have HS := Lib.hid (HS.out.alloc (.cells #[.string ⟨nab.toArray⟩] 9))
  have HL := Lib.hid (HL.out.alloc (.cells #[.string ⟨nab.toArray⟩] 9))
  have HP := Lib.hid (HP.out.alloc (.cells #[.string ⟨nab.toArray⟩] 9))
  have HQ := Lib.hid (HQ.out.alloc (.cells #[.string ⟨nab.toArray⟩] 9))
  refine (rsame_c [nab] [nab] true (by simp) 1 1 rfl rfl _ _ c1 1 _ HP.out (rd_one _ nab 9) (by decide)).mono ?_; rintro e w19 ⟨rfl, hb19⟩
  have HL := Lib.hid (HL.out.below (Nat.le_refl _) hb19)
  have HP := Lib.hid (HP.out.below (Nat.le_refl _) hb19)
  have HQ := Lib.hid (HQ.out.below (Nat.le_refl _) hb19)
  have HS := Lib.hid (HS.out.call hb19); clear hb19
  go_wp2_with fail
  refine (leaf_c tB lb HLB.out (by decide) _ (HE.out.below HS.out)).mono ?_; rintro e w20 ⟨rfl, hb20⟩
  have HL := Lib.hid (HL.out.below (Nat.le_refl _) hb20)
  have HP := Lib.hid (HP.out.below (Nat.le_refl _) hb20)
  have HQ := Lib.hid (HQ.out.below (Nat.le_refl _) hb20)
  have HS := Lib.hid (HS.out.call hb20); clear hb20
  go_wp2_with fail
  have HS := Lib.hid (HS.out.alloc (.cells #[.string ⟨lb.toArray⟩, .string ⟨lc.toArray⟩] 9))
  have HL := Lib.hid (HL.out.alloc (.cells #[.string ⟨lb.toArray⟩, .string ⟨lc.toArray⟩] 9))
  have HP := Lib.hid (HP.out.alloc (.cells #[.string ⟨lb.toArray⟩, .string ⟨lc.toArray⟩] 9))
  have HQ := Lib.hid (HQ.out.alloc (.cells #[.string ⟨lb.toArray⟩, .string ⟨lc.toArray⟩] 9))
  refine (rsame_c [lb, lc] [lb, lc] true (by simp) 2 2 rfl rfl _ _ c2 2 _ HQ.out (rd_two _ lb lc 9) (by decide)).mono ?_; rintro e w21 ⟨rfl, hb21⟩
  have HL := Lib.hid (HL.out.below (Nat.le_refl _) hb21)
  have HP := Lib.hid (HP.out.below (Nat.le_refl _) hb21)
  have HQ := Lib.hid (HQ.out.below (Nat.le_refl _) hb21)
  have HS := Lib.hid (HS.out.call hb21); clear hb21
  go_wp2_with fail
  refine (check_c rt tC 3 2 [nab] true E5.out _ 1 c1 _ (by decide) (one_le (by omega)) rfl (by decide) hc1 (by decide) HP.out (HE.out.below HS.out)).mono ?_; rintro e w22 ⟨rfl, hb22⟩
  have HL := Lib.hid (HL.out.below (Nat.le_refl _) hb22)
  have HP := Lib.hid (HP.out.below (Nat.le_refl _) hb22)
  have HQ := Lib.hid (HQ.out.below (Nat.le_refl _) hb22)
  have HS := Lib.hid (HS.out.call hb22); clear hb22
  go_wp2_with fail
  refine (check_c rt tB 3 2 [nab] false E8.out _ 1 c1 _ (by decide) (one_le (by omega)) rfl (by decide) hc1 (by decide) HP.out (HE.out.below HS.out)).mono ?_; rintro e w23 ⟨rfl, hb23⟩
  have HL := Lib.hid (HL.out.below (Nat.le_refl _) hb23)
  have HP := Lib.hid (HP.out.below (Nat.le_refl _) hb23)
  have HQ := Lib.hid (HQ.out.below (Nat.le_refl _) hb23)
  have HS := Lib.hid (HS.out.call hb23); clear hb23
  go_wp2_with fail
  refine (check_c rt tC 3 1 [nab] false E6.out _ 1 c1 _ (by decide) (one_le (by omega)) rfl (by decide) hc1 (by decide) HP.out (HE.out.below HS.out)).mono ?_; rintro e w24 ⟨rfl, hb24⟩
  have HS := Lib.hid (HS.out.call hb24); clear hb24
  go_wp2
  go_ret
  exact ⟨rfl, HS.out⟩
end Go.Proofs.YtkjgdgocjnocaaaDoor
