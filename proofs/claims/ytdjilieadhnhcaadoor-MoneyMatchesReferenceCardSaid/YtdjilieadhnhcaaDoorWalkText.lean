/-
  The walks of Text and Parse. What they ask of the world: the table of powers, the library's variables.
-/
import Derived.Test.YtdjilieadhnhcaaDoorWalkShare
import Derived.Test.YtdjilieadhnhcaaDoorShelf
import Derived.WalkSmall
import Derived.Lib.AtoiErrMem
import Derived.Lib.LaidTab
namespace Go.Proofs.YtdjilieadhnhcaaDoor
open Go.RowKit Go.Sort Foyer.Money

theorem below_grow' (w : World) (k : Nat) (os : Array Obj) : Below w.heap.size w (grow (w.drewN k) os) :=
  ⟨rfl, rfl, rfl, by show w.heap.size ≤ (w.heap ++ os).size; rw [Array.size_append]; omega, fun j hj => by
    show (w.heap ++ os)[j]? = w.heap[j]?
    exact Array.getElem?_append_left hj⟩

theorem gTab : Tryd.prog.globalNamed "internal/strconv.uint64pow10" = some 3 := by kernel_rfl

/-- What the functions over texts ask of the world. -/
structure Env (w : World) : Prop where
  tab : Lib.TabIs Tryd.prog w "internal/strconv.uint64pow10" .u64 Lib.pow10Tab
  ml : ∃ m, w.cell? ⟨0, 0, none⟩ = some (.int .i64 m)
  es : ∃ te pe, w.cell? ⟨1, 0, none⟩ = some (.iface te pe)

theorem Env.below {w w' : World} (h : Env w) (hb : Below w.heap.size w w') : Env w' := by
  obtain ⟨ht, ⟨m, hm⟩, te, pe, he⟩ := h
  have h0 := ht.cell gTab 0 (by decide)
  exact ⟨var?_below hb gTab (Lib.lt_of_cell h0) ht, ⟨m, by rw [hb.cell (Lib.lt_of_cell hm)]; exact hm⟩, te, pe, by rw [hb.cell (Lib.lt_of_cell he)]; exact he⟩

theorem itoa_call (n : Int) (h0 : -9223372036854775808 ≤ n) (h1 : n ≤ 9223372036854775807) (w : World) (hE : Env w) :
    Calls Tryd.prog 36 #[.int .i64 n] w fun e w' => e = .returned (.string ⟨(Lib.itoa n).toArray⟩) ∧ Below w.heap.size w w' :=
  (Tryd.strconv_Itoa n h0 h1 w hE.tab).mono fun _ _ ⟨he, k, os, hw⟩ => ⟨he, by rw [hw]; exact below_grow' w k os⟩

theorem text_bad (n : Int) (w : World) (h : valid n = false) :
    Calls Tryd.prog 22 #[.int .i64 n] w fun e w' => e = .returned (.string ⟨(text n).toArray⟩) ∧ Below w.heap.size w w' := by
  rw [text_nil h]
  go_enter Tryd.func22, Tryd.ntmps22
  go_wp2_with (go_at_call 20; refine (valid_no _ _ h).mono ?_; rintro e w' ⟨rfl, rfl⟩)
  go_ret
  exact ⟨rfl, Below.refl _ _⟩

theorem str_append (a b : List UInt8) : (⟨a.toArray⟩ : ByteArray) ++ ⟨b.toArray⟩ = ⟨(a ++ b).toArray⟩ := by
  apply ByteArray.ext
  rw [ByteArray.data_append]
  simp
theorem str_tail (a : List UInt8) : (⟨a.toArray⟩ : ByteArray).extract 1 a.length = ⟨(a.drop 1).toArray⟩ := by
  apply ByteArray.ext
  rw [ByteArray.data_extract]
  cases a <;> simp

theorem itoa_len (n : Int) (h0 : 0 ≤ n) (h1 : n ≤ 1000000000) : 1 ≤ (Lib.itoa n).length ∧ (Lib.itoa n).length ≤ 10 := by
  rw [show n = (n.toNat : Int) by omega, itoa_nat, dec_length]
  exact ⟨Lib.nDigits_pos _, nDigits_le 9 _ (by have : (10 : Nat) ^ (9 + 1) = 10000000000 := by decide
                                               omega)⟩

theorem text_good (n : Int) (w : World) (h : valid n = true) (hE : Env w) :
    Calls Tryd.prog 22 #[.int .i64 n] w fun e w' => e = .returned (.string ⟨(text n).toArray⟩) ∧ Below w.heap.size w w' := by
  obtain ⟨s1, s2⟩ := size_bd h
  have hN : ((n.natAbs : Nat) : Int) = size n := by unfold size; split <;> omega
  have hB : bare n.natAbs = Lib.itoa (size n / 100) ++ [46] ++ (Lib.itoa (100 + size n % 100)).drop 1 := by
    unfold bare; rw [← hN]; rfl
  have hT : text n = if sgn n < 0 then 45 :: bare n.natAbs else bare n.natAbs := by
    unfold text sgn; rw [if_pos h]; by_cases h0 : n < 0 <;> simp [h0]
  rw [hB] at hT
  have HT := Lib.hid hT; clear hT hB hN
  have HE := Lib.hid hE; clear hE
  have Hv := Lib.hid h; clear h
  generalize hz : size n = z at *
  have Hz := Lib.hid hz; clear hz
  go_enter Tryd.func22, Tryd.ntmps22
  go_wp2_with fail
  refine (valid_yes _ _ Hv.out).mono ?_; rintro e w' ⟨rfl, rfl⟩
  go_wp2_with fail
  refine (absolute_any _ _ Hv.out).mono ?_; rintro e w' ⟨rfl, rfl⟩
  rw [Hz.out]
  go_wp2_with fail
  refine (itoa_call _ (by omega) (by omega) _ HE.out).mono ?_; rintro e w1 ⟨rfl, hb1⟩
  have HE1 := Lib.hid (HE.out.below hb1)
  obtain ⟨hl1, hl1'⟩ := itoa_len (100 + z % 100) (by omega) (by omega)
  obtain ⟨hl2, hl2'⟩ := itoa_len (z / 100) (by omega) (by omega)
  have hl1'' : 1 ≤ ((Lib.itoa (100 + z % 100)).length : Int) := by omega
  generalize Lib.itoa (100 + z % 100) = l1 at *
  generalize sgn n = s at *
  go_wp2_with fail
  refine (itoa_call _ (by omega) (by omega) _ HE1.out).mono ?_; rintro e w2 ⟨rfl, hb2⟩
  generalize Lib.itoa (z / 100) = l2 at *
  have hb := hb1.trans (hb2.mono hb1.size)
  clear hb1 hb2
  have Hb := Lib.hid hb; clear hb
  have e1 : (⟨#[46]⟩ : ByteArray) = ⟨([46] : List UInt8).toArray⟩ := rfl
  have e2 : (⟨#[45]⟩ : ByteArray) = ⟨([45] : List UInt8).toArray⟩ := rfl
  have hS : (⟨l2.toArray⟩ : ByteArray) ++ ⟨#[46]⟩ ++ (⟨l1.toArray⟩ : ByteArray).extract 1 l1.length = ⟨(l2 ++ [46] ++ l1.drop 1).toArray⟩ := by
    rw [e1, str_tail, str_append, str_append]
  have hS' : (⟨#[45]⟩ : ByteArray) ++ (⟨l2.toArray⟩ ++ ⟨#[46]⟩ ++ (⟨l1.toArray⟩ : ByteArray).extract 1 l1.length) = ⟨(45 :: (l2 ++ [46] ++ l1.drop 1)).toArray⟩ := by
    rw [hS, e2, str_append]; rfl
  have HS := Lib.hid hS; have HS' := Lib.hid hS'; clear hS hS' e1 e2
  by_cases hs : s < 0
  · rw [if_pos hs] at HT
    go_wp2
    go_ret
    exact ⟨by rw [HT.out, ← HS'.out]; rfl, Hb.out⟩
  · rw [if_neg hs] at HT
    go_wp2
    go_ret
    exact ⟨by rw [HT.out, ← HS.out]; rfl, Hb.out⟩

theorem text_any (n : Int) (w : World) (hE : Env w) :
    Calls Tryd.prog 22 #[.int .i64 n] w fun e w' => e = .returned (.string ⟨(text n).toArray⟩) ∧ Below w.heap.size w w' := by
  cases h : valid n
  · exact text_bad n w h
  · exact text_good n w h hE
end Go.Proofs.YtdjilieadhnhcaaDoor
