/-
  The law's examples.
-/
import Derived.Test.YtlfjdohjfmfcdabDoorRefSame7
namespace Foyer.Rule
theorem rex1 : parseAll [97, 108, 108, 111, 119, 32, 97, 32, 108, 105, 109, 105, 116, 32, 52, 32, 119, 104, 101, 110, 32, 116, 105, 109, 101, 32, 62, 61, 32, 49, 48, 48, 32, 97, 110, 100, 32, 109, 101, 109, 98, 101, 114, 32, 61, 32, 49, 32, 111, 114, 32, 97, 103, 101, 32, 60, 32, 49, 56, 59] = ([⟨1, [97], [[⟨[116, 105, 109, 101], 6, [], 100, 21⟩, ⟨[109, 101, 109, 98, 101, 114], 1, [], 1, 37⟩], [⟨[97, 103, 101], 3, [], 18, 51⟩]], ⟨4, 0, 0, 0, 0⟩, 0⟩], 0, 0) := by decide +kernel
theorem rex2 : parseAll [112, 114, 105, 99, 101, 32, 112, 32, 53, 48, 48, 48, 32, 102, 101, 101, 32, 49, 47, 49, 48, 59] = ([⟨3, [112], [], ⟨5000, 1, 10, 0, 1⟩, 0⟩], 0, 0) := by decide +kernel
theorem rex3 : parseAll [100, 101, 110, 121, 32, 100, 32, 119, 104, 101, 110, 32, 98, 108, 111, 99, 107, 32, 61, 32, 115, 116, 97, 108, 108, 115, 46, 97, 59] = ([⟨2, [100], [[⟨[98, 108, 111, 99, 107], 1, [115, 116, 97, 108, 108, 115, 46, 97], 0, 12⟩]], ⟨0, 0, 0, 0, 0⟩, 0⟩], 0, 0) := by decide +kernel
theorem rex4 : parseAll [97, 108, 108, 111, 119, 32, 97] = ([], 7, 7) := by decide +kernel
theorem rex5 : parseAll [97, 108, 108, 111, 119, 32, 97, 32, 119, 104, 101, 110, 32, 120, 32, 51, 59] = ([], 4, 15) := by decide +kernel
end Foyer.Rule
namespace Go.Proofs.YtlfjdohjfmfcdabDoor
open Go.RowKit Go.Sort Go.Shelf Foyer.Rule Foyer.Round

/-- A list that was just made, of structs of any size. -/
theorem list_made {α : Type} {K : Kind α} {W : World} {F : Nat → Prop} {T : TypeId} {b n : Nat} {css : List (List Value)} {xs : List α} (h : Blk W b T css.flatten) (hF : F b) (hall : All2 (K.is W F) css xs) (hn : xs.length = n) (h1 : n ≤ 1000000) : IsList K W F T (.slice (some ⟨b, 0, none⟩) n n) xs := by
  have hl := All2.length hall
  have he : ∀ cs ∈ css, cs.length = K.size := by
    intro cs hcs
    obtain ⟨i, hi⟩ := List.getElem?_of_mem hcs
    have hlt : i < xs.length := by rw [← hl]; exact (List.getElem?_eq_some_iff.1 hi).1
    obtain ⟨c, hc, hk⟩ := All2.at hall (List.getElem?_eq_getElem hlt)
    rw [hi] at hc
    cases hc
    exact K.len hk
  have hf := flatten_length he
  have hcn : css.length = n := hl.trans hn
  refine ⟨css, ⟨⟨hf, Or.inr ⟨b, n, css.flatten.toArray, by rw [hcn], Nat.zero_le _, h, by omega, by unfold maxLen; omega, ?_, ?_⟩⟩, he⟩, fun k hk => ?_, hall⟩
  · rw [List.size_toArray, hf, hcn]
  · rw [hcn]
    show List.take (n * K.size) css.flatten = css.flatten
    rw [← hcn, ← hf, List.take_length]
  · cases hk; exact hF
theorem Blk.lateB {W W2 : World} {b : Nat} {T : TypeId} {cs : List Value} (h : Blk W b T cs) (hb : Below W.heap.size W W2) : Blk W2 b T cs := h.below hb
set_option linter.unusedSimpArgs false in
set_option maxRecDepth 100000 in
set_option maxHeartbeats 16000000 in
theorem head_any (w : World) : Calls Tryd.prog 4 #[] w fun e w' => e = .returned (.bool true) ∧ Below w.heap.size w w' := by
  have HX0 : Hid (Below w.heap.size w w) := Lib.hid (Below.refl _ _)
  go_enter Tryd.func4, Tryd.ntmps4
  go_wp2_with fail
  refine (rule_c _ (by decide) _ _ _ rex1 _).mono ?_
  rintro e w1 ⟨vv, rfl, hv, b1⟩
  obtain ⟨g1, cap1, cs, he, _, _, _, hg, ⟨vw, rfl, hw⟩, hcell⟩ := hv.at (i := 0) rfl
  obtain rfl : vv = .slice (some ⟨g1, 0, none⟩) 1 cap1 := he
  obtain ⟨sa1, sn1, sc1, rfl⟩ := hw.slice
  have hbk : Below w.heap.size w (w1.alloc (.cells #[.slice (some ⟨g1, 0, none⟩) 1 cap1] 25)) := b1.alloc b1.size _
  have V1 := Lib.hid (Blk.new w1 25 [.slice (some ⟨g1, 0, none⟩) 1 cap1])
  have hcell2 : ∀ (j : Nat) (u : Value), (itemCl 1 [97] (.slice sa1 sn1 sc1) ⟨4, 0, 0, 0, 0⟩ 0)[j]? = some u → w1.cell? ⟨g1, j, none⟩ = some u := fun j u hj => by
    have h0 := hcell j u hj
    rw [Nat.zero_mul, Nat.zero_add] at h0
    exact h0
  have GL1 := Lib.hid (Nat.lt_of_lt_of_le hg ((Below.refl w1.heap.size w1).alloc (Nat.le_refl _) (.cells #[.slice (some ⟨g1, 0, none⟩) 1 cap1] 25)).size)
  have C1 := Lib.hid (fun (j : Nat) (u : Value) (hj : (itemCl 1 [97] (.slice sa1 sn1 sc1) ⟨4, 0, 0, 0, 0⟩ 0)[j]? = some u) => (((Below.refl w1.heap.size w1).alloc (Nat.le_refl _) (.cells #[.slice (some ⟨g1, 0, none⟩) 1 cap1] 25)).cell (p := ⟨g1, j, none⟩) hg).trans (hcell2 j u hj))
  have L1 := Lib.hid (hw.below ((Below.refl w1.heap.size w1).alloc (Nat.le_refl _) (.cells #[.slice (some ⟨g1, 0, none⟩) 1 cap1] 25)))
  have HX1 := Lib.hid (HX0.out.trans (hbk.mono HX0.out.size))
  clear b1 hbk hv hw hcell hcell2 hg HX0
  go_upto_region 2 with fail
  generalize w1.alloc (.cells #[.slice (some ⟨g1, 0, none⟩) 1 cap1] 25) = X1 at *
  generalize w1.heap.size = v1 at *
  go_wp2_with fail
  refine (rule_c _ (by decide) _ _ _ rex2 _).mono ?_
  rintro e w2 ⟨vv, rfl, hv, b2⟩
  obtain ⟨g2, cap2, cs, he, _, _, _, hg, ⟨vw, rfl, hw⟩, hcell⟩ := hv.at (i := 0) rfl
  obtain rfl : vv = .slice (some ⟨g2, 0, none⟩) 1 cap2 := he
  obtain ⟨sa2, sn2, sc2, rfl⟩ := hw.slice
  have hbk : Below X1.heap.size X1 (w2.alloc (.cells #[.slice (some ⟨g2, 0, none⟩) 1 cap2] 25)) := b2.alloc b2.size _
  replace C1 := Lib.hid (fun (j : Nat) (u : Value) (hj : (itemCl 1 [97] (.slice sa1 sn1 sc1) ⟨4, 0, 0, 0, 0⟩ 0)[j]? = some u) => (hbk.cell (p := ⟨g1, j, none⟩) GL1.out).trans (C1.out j u hj))
  replace GL1 := Lib.hid (Nat.lt_of_lt_of_le GL1.out hbk.size)
  replace L1 := Lib.hid (L1.out.below hbk)
  replace V1 := Lib.hid (V1.out.below hbk)
  have V2 := Lib.hid (Blk.new w2 25 [.slice (some ⟨g2, 0, none⟩) 1 cap2])
  have hcell2 : ∀ (j : Nat) (u : Value), (itemCl 3 [112] (.slice sa2 sn2 sc2) ⟨5000, 1, 10, 0, 1⟩ 0)[j]? = some u → w2.cell? ⟨g2, j, none⟩ = some u := fun j u hj => by
    have h0 := hcell j u hj
    rw [Nat.zero_mul, Nat.zero_add] at h0
    exact h0
  have GL2 := Lib.hid (Nat.lt_of_lt_of_le hg ((Below.refl w2.heap.size w2).alloc (Nat.le_refl _) (.cells #[.slice (some ⟨g2, 0, none⟩) 1 cap2] 25)).size)
  have C2 := Lib.hid (fun (j : Nat) (u : Value) (hj : (itemCl 3 [112] (.slice sa2 sn2 sc2) ⟨5000, 1, 10, 0, 1⟩ 0)[j]? = some u) => (((Below.refl w2.heap.size w2).alloc (Nat.le_refl _) (.cells #[.slice (some ⟨g2, 0, none⟩) 1 cap2] 25)).cell (p := ⟨g2, j, none⟩) hg).trans (hcell2 j u hj))
  have L2 := Lib.hid (hw.below ((Below.refl w2.heap.size w2).alloc (Nat.le_refl _) (.cells #[.slice (some ⟨g2, 0, none⟩) 1 cap2] 25)))
  have HX2 := Lib.hid (HX1.out.trans (hbk.mono HX1.out.size))
  clear b2 hbk hv hw hcell hcell2 hg HX1
  go_upto_region 3 with fail
  generalize w2.alloc (.cells #[.slice (some ⟨g2, 0, none⟩) 1 cap2] 25) = X2 at *
  generalize w2.heap.size = v2 at *
  go_wp2_with fail
  refine (rule_c _ (by decide) _ _ _ rex3 _).mono ?_
  rintro e w3 ⟨vv, rfl, hv, b3⟩
  obtain ⟨g3, cap3, cs, he, _, _, _, hg, ⟨vw, rfl, hw⟩, hcell⟩ := hv.at (i := 0) rfl
  obtain rfl : vv = .slice (some ⟨g3, 0, none⟩) 1 cap3 := he
  obtain ⟨sa3, sn3, sc3, rfl⟩ := hw.slice
  have hbk : Below X2.heap.size X2 (w3.alloc (.cells #[.slice (some ⟨g3, 0, none⟩) 1 cap3] 25)) := b3.alloc b3.size _
  replace C1 := Lib.hid (fun (j : Nat) (u : Value) (hj : (itemCl 1 [97] (.slice sa1 sn1 sc1) ⟨4, 0, 0, 0, 0⟩ 0)[j]? = some u) => (hbk.cell (p := ⟨g1, j, none⟩) GL1.out).trans (C1.out j u hj))
  replace GL1 := Lib.hid (Nat.lt_of_lt_of_le GL1.out hbk.size)
  replace L1 := Lib.hid (L1.out.below hbk)
  replace V1 := Lib.hid (V1.out.below hbk)
  replace C2 := Lib.hid (fun (j : Nat) (u : Value) (hj : (itemCl 3 [112] (.slice sa2 sn2 sc2) ⟨5000, 1, 10, 0, 1⟩ 0)[j]? = some u) => (hbk.cell (p := ⟨g2, j, none⟩) GL2.out).trans (C2.out j u hj))
  replace GL2 := Lib.hid (Nat.lt_of_lt_of_le GL2.out hbk.size)
  replace L2 := Lib.hid (L2.out.below hbk)
  replace V2 := Lib.hid (V2.out.below hbk)
  have V3 := Lib.hid (Blk.new w3 25 [.slice (some ⟨g3, 0, none⟩) 1 cap3])
  have hcell2 : ∀ (j : Nat) (u : Value), (itemCl 2 [100] (.slice sa3 sn3 sc3) ⟨0, 0, 0, 0, 0⟩ 0)[j]? = some u → w3.cell? ⟨g3, j, none⟩ = some u := fun j u hj => by
    have h0 := hcell j u hj
    rw [Nat.zero_mul, Nat.zero_add] at h0
    exact h0
  have GL3 := Lib.hid (Nat.lt_of_lt_of_le hg ((Below.refl w3.heap.size w3).alloc (Nat.le_refl _) (.cells #[.slice (some ⟨g3, 0, none⟩) 1 cap3] 25)).size)
  have C3 := Lib.hid (fun (j : Nat) (u : Value) (hj : (itemCl 2 [100] (.slice sa3 sn3 sc3) ⟨0, 0, 0, 0, 0⟩ 0)[j]? = some u) => (((Below.refl w3.heap.size w3).alloc (Nat.le_refl _) (.cells #[.slice (some ⟨g3, 0, none⟩) 1 cap3] 25)).cell (p := ⟨g3, j, none⟩) hg).trans (hcell2 j u hj))
  have L3 := Lib.hid (hw.below ((Below.refl w3.heap.size w3).alloc (Nat.le_refl _) (.cells #[.slice (some ⟨g3, 0, none⟩) 1 cap3] 25)))
  have HX3 := Lib.hid (HX2.out.trans (hbk.mono HX2.out.size))
  clear b3 hbk hv hw hcell hcell2 hg HX2
  go_upto_region 4 with fail
  generalize w3.alloc (.cells #[.slice (some ⟨g3, 0, none⟩) 1 cap3] 25) = X3 at *
  generalize w3.heap.size = v3 at *
  go_wp2_with fail
  refine (rule_c _ (by decide) _ _ _ rex4 _).mono ?_
  rintro e w4 ⟨vv, rfl, hv, b4⟩
  obtain ⟨sa4, sc4, he⟩ := hv.len
  obtain rfl : vv = .slice sa4 0 sc4 := he
  have hbk : Below X3.heap.size X3 (w4.alloc (.cells #[.slice sa4 0 sc4] 25)) := b4.alloc b4.size _
  replace C1 := Lib.hid (fun (j : Nat) (u : Value) (hj : (itemCl 1 [97] (.slice sa1 sn1 sc1) ⟨4, 0, 0, 0, 0⟩ 0)[j]? = some u) => (hbk.cell (p := ⟨g1, j, none⟩) GL1.out).trans (C1.out j u hj))
  replace GL1 := Lib.hid (Nat.lt_of_lt_of_le GL1.out hbk.size)
  replace L1 := Lib.hid (L1.out.below hbk)
  replace V1 := Lib.hid (V1.out.below hbk)
  replace C2 := Lib.hid (fun (j : Nat) (u : Value) (hj : (itemCl 3 [112] (.slice sa2 sn2 sc2) ⟨5000, 1, 10, 0, 1⟩ 0)[j]? = some u) => (hbk.cell (p := ⟨g2, j, none⟩) GL2.out).trans (C2.out j u hj))
  replace GL2 := Lib.hid (Nat.lt_of_lt_of_le GL2.out hbk.size)
  replace L2 := Lib.hid (L2.out.below hbk)
  replace V2 := Lib.hid (V2.out.below hbk)
  replace C3 := Lib.hid (fun (j : Nat) (u : Value) (hj : (itemCl 2 [100] (.slice sa3 sn3 sc3) ⟨0, 0, 0, 0, 0⟩ 0)[j]? = some u) => (hbk.cell (p := ⟨g3, j, none⟩) GL3.out).trans (C3.out j u hj))
  replace GL3 := Lib.hid (Nat.lt_of_lt_of_le GL3.out hbk.size)
  replace L3 := Lib.hid (L3.out.below hbk)
  replace V3 := Lib.hid (V3.out.below hbk)
  have V4 := Lib.hid (Blk.new w4 25 [.slice sa4 0 sc4])
  have HX4 := Lib.hid (HX3.out.trans (hbk.mono HX3.out.size))
  clear b4 hbk hv HX3
  go_upto_region 5 with fail
  generalize w4.alloc (.cells #[.slice sa4 0 sc4] 25) = X4 at *
  generalize w4.heap.size = v4 at *
  go_wp2_with fail
  refine (rule_c _ (by decide) _ _ _ rex5 _).mono ?_
  rintro e w5 ⟨vv, rfl, hv, b5⟩
  obtain ⟨sa5, sc5, he⟩ := hv.len
  obtain rfl : vv = .slice sa5 0 sc5 := he
  have hbk : Below X4.heap.size X4 (w5.alloc (.cells #[.slice sa5 0 sc5] 25)) := b5.alloc b5.size _
  replace C1 := Lib.hid (fun (j : Nat) (u : Value) (hj : (itemCl 1 [97] (.slice sa1 sn1 sc1) ⟨4, 0, 0, 0, 0⟩ 0)[j]? = some u) => (hbk.cell (p := ⟨g1, j, none⟩) GL1.out).trans (C1.out j u hj))
  replace GL1 := Lib.hid (Nat.lt_of_lt_of_le GL1.out hbk.size)
  replace L1 := Lib.hid (L1.out.below hbk)
  replace V1 := Lib.hid (V1.out.below hbk)
  replace C2 := Lib.hid (fun (j : Nat) (u : Value) (hj : (itemCl 3 [112] (.slice sa2 sn2 sc2) ⟨5000, 1, 10, 0, 1⟩ 0)[j]? = some u) => (hbk.cell (p := ⟨g2, j, none⟩) GL2.out).trans (C2.out j u hj))
  replace GL2 := Lib.hid (Nat.lt_of_lt_of_le GL2.out hbk.size)
  replace L2 := Lib.hid (L2.out.below hbk)
  replace V2 := Lib.hid (V2.out.below hbk)
  replace C3 := Lib.hid (fun (j : Nat) (u : Value) (hj : (itemCl 2 [100] (.slice sa3 sn3 sc3) ⟨0, 0, 0, 0, 0⟩ 0)[j]? = some u) => (hbk.cell (p := ⟨g3, j, none⟩) GL3.out).trans (C3.out j u hj))
  replace GL3 := Lib.hid (Nat.lt_of_lt_of_le GL3.out hbk.size)
  replace L3 := Lib.hid (L3.out.below hbk)
  replace V3 := Lib.hid (V3.out.below hbk)
  replace V4 := Lib.hid (V4.out.below hbk)
  have V5 := Lib.hid (Blk.new w5 25 [.slice sa5 0 sc5])
  have HX5 := Lib.hid (HX4.out.trans (hbk.mono HX4.out.size))
  clear b5 hbk hv HX4
  go_upto_region 6 with fail
  generalize w5.alloc (.cells #[.slice sa5 0 sc5] 25) = X5 at *
  generalize w5.heap.size = v5 at *
  have y1 := V1.out.cell (i := 0) rfl
  have y2 := V2.out.cell (i := 0) rfl
  have y3 := V3.out.cell (i := 0) rfl
  have y4 := V4.out.cell (i := 0) rfl
  have y5 := V5.out.cell (i := 0) rfl
  go_upto_region 8 with fail
  clear y1 y2 y3 y4 y5
  have hbk : Below X5.heap.size X5 (X5.alloc (.cells #[.string ⟨#[116, 105, 109, 101]⟩, .int .i64 6, .string ⟨#[]⟩, .int .i64 100, .int .i64 21] 32)) := ((Below.refl X5.heap.size X5).alloc (Nat.le_refl _) (.cells #[.string ⟨#[116, 105, 109, 101]⟩, .int .i64 6, .string ⟨#[]⟩, .int .i64 100, .int .i64 21] 32))
  replace C1 := Lib.hid (fun (j : Nat) (u : Value) (hj : (itemCl 1 [97] (.slice sa1 sn1 sc1) ⟨4, 0, 0, 0, 0⟩ 0)[j]? = some u) => (hbk.cell (p := ⟨g1, j, none⟩) GL1.out).trans (C1.out j u hj))
  replace GL1 := Lib.hid (Nat.lt_of_lt_of_le GL1.out hbk.size)
  replace L1 := Lib.hid (L1.out.below hbk)
  replace V1 := Lib.hid (V1.out.below hbk)
  replace C2 := Lib.hid (fun (j : Nat) (u : Value) (hj : (itemCl 3 [112] (.slice sa2 sn2 sc2) ⟨5000, 1, 10, 0, 1⟩ 0)[j]? = some u) => (hbk.cell (p := ⟨g2, j, none⟩) GL2.out).trans (C2.out j u hj))
  replace GL2 := Lib.hid (Nat.lt_of_lt_of_le GL2.out hbk.size)
  replace L2 := Lib.hid (L2.out.below hbk)
  replace V2 := Lib.hid (V2.out.below hbk)
  replace C3 := Lib.hid (fun (j : Nat) (u : Value) (hj : (itemCl 2 [100] (.slice sa3 sn3 sc3) ⟨0, 0, 0, 0, 0⟩ 0)[j]? = some u) => (hbk.cell (p := ⟨g3, j, none⟩) GL3.out).trans (C3.out j u hj))
  replace GL3 := Lib.hid (Nat.lt_of_lt_of_le GL3.out hbk.size)
  replace L3 := Lib.hid (L3.out.below hbk)
  replace V3 := Lib.hid (V3.out.below hbk)
  replace V4 := Lib.hid (V4.out.below hbk)
  replace V5 := Lib.hid (V5.out.below hbk)
  have T1 := Blk.new X5 32 [.string ⟨#[116, 105, 109, 101]⟩, .int .i64 6, .string ⟨#[]⟩, .int .i64 100, .int .i64 21]
  skip
  replace T1 := Lib.hid T1
  have HX6 := Lib.hid (HX5.out.trans (hbk.mono HX5.out.size))
  clear hbk HX5
  go_upto_region 9 with fail
  generalize (X5.alloc (.cells #[.string ⟨#[116, 105, 109, 101]⟩, .int .i64 6, .string ⟨#[]⟩, .int .i64 100, .int .i64 21] 32)) = X6 at *
  generalize X5.heap.size = nT1 at *
  have hbk : Below X6.heap.size X6 (X6.alloc (.cells #[.string ⟨#[109, 101, 109, 98, 101, 114]⟩, .int .i64 1, .string ⟨#[]⟩, .int .i64 1, .int .i64 37] 32)) := ((Below.refl X6.heap.size X6).alloc (Nat.le_refl _) (.cells #[.string ⟨#[109, 101, 109, 98, 101, 114]⟩, .int .i64 1, .string ⟨#[]⟩, .int .i64 1, .int .i64 37] 32))
  replace C1 := Lib.hid (fun (j : Nat) (u : Value) (hj : (itemCl 1 [97] (.slice sa1 sn1 sc1) ⟨4, 0, 0, 0, 0⟩ 0)[j]? = some u) => (hbk.cell (p := ⟨g1, j, none⟩) GL1.out).trans (C1.out j u hj))
  replace GL1 := Lib.hid (Nat.lt_of_lt_of_le GL1.out hbk.size)
  replace L1 := Lib.hid (L1.out.below hbk)
  replace V1 := Lib.hid (V1.out.below hbk)
  replace C2 := Lib.hid (fun (j : Nat) (u : Value) (hj : (itemCl 3 [112] (.slice sa2 sn2 sc2) ⟨5000, 1, 10, 0, 1⟩ 0)[j]? = some u) => (hbk.cell (p := ⟨g2, j, none⟩) GL2.out).trans (C2.out j u hj))
  replace GL2 := Lib.hid (Nat.lt_of_lt_of_le GL2.out hbk.size)
  replace L2 := Lib.hid (L2.out.below hbk)
  replace V2 := Lib.hid (V2.out.below hbk)
  replace C3 := Lib.hid (fun (j : Nat) (u : Value) (hj : (itemCl 2 [100] (.slice sa3 sn3 sc3) ⟨0, 0, 0, 0, 0⟩ 0)[j]? = some u) => (hbk.cell (p := ⟨g3, j, none⟩) GL3.out).trans (C3.out j u hj))
  replace GL3 := Lib.hid (Nat.lt_of_lt_of_le GL3.out hbk.size)
  replace L3 := Lib.hid (L3.out.below hbk)
  replace V3 := Lib.hid (V3.out.below hbk)
  replace V4 := Lib.hid (V4.out.below hbk)
  replace V5 := Lib.hid (V5.out.below hbk)
  replace T1 := Lib.hid (T1.out.below hbk)
  have T2 := Blk.new X6 32 [.string ⟨#[109, 101, 109, 98, 101, 114]⟩, .int .i64 1, .string ⟨#[]⟩, .int .i64 1, .int .i64 37]
  skip
  replace T2 := Lib.hid T2
  have HX7 := Lib.hid (HX6.out.trans (hbk.mono HX6.out.size))
  clear hbk HX6
  go_upto_region 10 with fail
  generalize (X6.alloc (.cells #[.string ⟨#[109, 101, 109, 98, 101, 114]⟩, .int .i64 1, .string ⟨#[]⟩, .int .i64 1, .int .i64 37] 32)) = X7 at *
  generalize X6.heap.size = nT2 at *
  have hbk : Below X7.heap.size X7 (X7.alloc (.cells #[.string ⟨#[97, 103, 101]⟩, .int .i64 3, .string ⟨#[]⟩, .int .i64 18, .int .i64 51] 32)) := ((Below.refl X7.heap.size X7).alloc (Nat.le_refl _) (.cells #[.string ⟨#[97, 103, 101]⟩, .int .i64 3, .string ⟨#[]⟩, .int .i64 18, .int .i64 51] 32))
  replace C1 := Lib.hid (fun (j : Nat) (u : Value) (hj : (itemCl 1 [97] (.slice sa1 sn1 sc1) ⟨4, 0, 0, 0, 0⟩ 0)[j]? = some u) => (hbk.cell (p := ⟨g1, j, none⟩) GL1.out).trans (C1.out j u hj))
  replace GL1 := Lib.hid (Nat.lt_of_lt_of_le GL1.out hbk.size)
  replace L1 := Lib.hid (L1.out.below hbk)
  replace V1 := Lib.hid (V1.out.below hbk)
  replace C2 := Lib.hid (fun (j : Nat) (u : Value) (hj : (itemCl 3 [112] (.slice sa2 sn2 sc2) ⟨5000, 1, 10, 0, 1⟩ 0)[j]? = some u) => (hbk.cell (p := ⟨g2, j, none⟩) GL2.out).trans (C2.out j u hj))
  replace GL2 := Lib.hid (Nat.lt_of_lt_of_le GL2.out hbk.size)
  replace L2 := Lib.hid (L2.out.below hbk)
  replace V2 := Lib.hid (V2.out.below hbk)
  replace C3 := Lib.hid (fun (j : Nat) (u : Value) (hj : (itemCl 2 [100] (.slice sa3 sn3 sc3) ⟨0, 0, 0, 0, 0⟩ 0)[j]? = some u) => (hbk.cell (p := ⟨g3, j, none⟩) GL3.out).trans (C3.out j u hj))
  replace GL3 := Lib.hid (Nat.lt_of_lt_of_le GL3.out hbk.size)
  replace L3 := Lib.hid (L3.out.below hbk)
  replace V3 := Lib.hid (V3.out.below hbk)
  replace V4 := Lib.hid (V4.out.below hbk)
  replace V5 := Lib.hid (V5.out.below hbk)
  replace T1 := Lib.hid (T1.out.below hbk)
  replace T2 := Lib.hid (T2.out.below hbk)
  have T3 := Blk.new X7 32 [.string ⟨#[97, 103, 101]⟩, .int .i64 3, .string ⟨#[]⟩, .int .i64 18, .int .i64 51]
  skip
  replace T3 := Lib.hid T3
  have HX8 := Lib.hid (HX7.out.trans (hbk.mono HX7.out.size))
  clear hbk HX7
  go_upto_region 11 with fail
  generalize (X7.alloc (.cells #[.string ⟨#[97, 103, 101]⟩, .int .i64 3, .string ⟨#[]⟩, .int .i64 18, .int .i64 51] 32)) = X8 at *
  generalize X7.heap.size = nT3 at *
  have eT15 := T1.out.lt
  have eT10 := T1.out.cell (i := 0) rfl
  have eT11 := T1.out.cell (i := 1) rfl
  have eT12 := T1.out.cell (i := 2) rfl
  have eT13 := T1.out.cell (i := 3) rfl
  have eT14 := T1.out.cell (i := 4) rfl
  have eT25 := T2.out.lt
  have eT20 := T2.out.cell (i := 0) rfl
  have eT21 := T2.out.cell (i := 1) rfl
  have eT22 := T2.out.cell (i := 2) rfl
  have eT23 := T2.out.cell (i := 3) rfl
  have eT24 := T2.out.cell (i := 4) rfl
  have eT35 := T3.out.lt
  have eT30 := T3.out.cell (i := 0) rfl
  have eT31 := T3.out.cell (i := 1) rfl
  have eT32 := T3.out.cell (i := 2) rfl
  have eT33 := T3.out.cell (i := 3) rfl
  have eT34 := T3.out.cell (i := 4) rfl
  have hbk : Below X8.heap.size X8 ((((X8.alloc (.cells #[.string ⟨#[116, 105, 109, 101]⟩, .int .i64 6, .string ⟨#[]⟩, .int .i64 100, .int .i64 21, .string ⟨#[109, 101, 109, 98, 101, 114]⟩, .int .i64 1, .string ⟨#[]⟩, .int .i64 1, .int .i64 37] 32)).alloc (.cells #[.string ⟨#[97, 103, 101]⟩, .int .i64 3, .string ⟨#[]⟩, .int .i64 18, .int .i64 51] 32)).alloc (.cells #[.slice (some ⟨X8.heap.size, 0, none⟩) 2 2, .slice (some ⟨(X8.heap.size + 1), 0, none⟩) 1 1] 33)).alloc (.cells #[.int .i64 1, .string ⟨#[97]⟩, .slice (some ⟨(X8.heap.size + 1 + 1), 0, none⟩) 2 2, .int .i64 4, .int .i64 0, .int .i64 0, .int .i64 0, .int .i64 0, .int .i64 0] 38)) := (((((Below.refl X8.heap.size X8).alloc (Nat.le_refl _) (.cells #[.string ⟨#[116, 105, 109, 101]⟩, .int .i64 6, .string ⟨#[]⟩, .int .i64 100, .int .i64 21, .string ⟨#[109, 101, 109, 98, 101, 114]⟩, .int .i64 1, .string ⟨#[]⟩, .int .i64 1, .int .i64 37] 32)).alloc (by simp only [World.size_alloc]; omega) (.cells #[.string ⟨#[97, 103, 101]⟩, .int .i64 3, .string ⟨#[]⟩, .int .i64 18, .int .i64 51] 32)).alloc (by simp only [World.size_alloc]; omega) (.cells #[.slice (some ⟨X8.heap.size, 0, none⟩) 2 2, .slice (some ⟨(X8.heap.size + 1), 0, none⟩) 1 1] 33)).alloc (by simp only [World.size_alloc]; omega) (.cells #[.int .i64 1, .string ⟨#[97]⟩, .slice (some ⟨(X8.heap.size + 1 + 1), 0, none⟩) 2 2, .int .i64 4, .int .i64 0, .int .i64 0, .int .i64 0, .int .i64 0, .int .i64 0] 38))
  replace C1 := Lib.hid (fun (j : Nat) (u : Value) (hj : (itemCl 1 [97] (.slice sa1 sn1 sc1) ⟨4, 0, 0, 0, 0⟩ 0)[j]? = some u) => (hbk.cell (p := ⟨g1, j, none⟩) GL1.out).trans (C1.out j u hj))
  replace GL1 := Lib.hid (Nat.lt_of_lt_of_le GL1.out hbk.size)
  replace L1 := Lib.hid (L1.out.below hbk)
  replace V1 := Lib.hid (V1.out.below hbk)
  replace C2 := Lib.hid (fun (j : Nat) (u : Value) (hj : (itemCl 3 [112] (.slice sa2 sn2 sc2) ⟨5000, 1, 10, 0, 1⟩ 0)[j]? = some u) => (hbk.cell (p := ⟨g2, j, none⟩) GL2.out).trans (C2.out j u hj))
  replace GL2 := Lib.hid (Nat.lt_of_lt_of_le GL2.out hbk.size)
  replace L2 := Lib.hid (L2.out.below hbk)
  replace V2 := Lib.hid (V2.out.below hbk)
  replace C3 := Lib.hid (fun (j : Nat) (u : Value) (hj : (itemCl 2 [100] (.slice sa3 sn3 sc3) ⟨0, 0, 0, 0, 0⟩ 0)[j]? = some u) => (hbk.cell (p := ⟨g3, j, none⟩) GL3.out).trans (C3.out j u hj))
  replace GL3 := Lib.hid (Nat.lt_of_lt_of_le GL3.out hbk.size)
  replace L3 := Lib.hid (L3.out.below hbk)
  replace V3 := Lib.hid (V3.out.below hbk)
  replace V4 := Lib.hid (V4.out.below hbk)
  replace V5 := Lib.hid (V5.out.below hbk)
  replace T1 := Lib.hid (T1.out.below hbk)
  replace T2 := Lib.hid (T2.out.below hbk)
  replace T3 := Lib.hid (T3.out.below hbk)
  have A1 := (((Blk.new X8 32 [.string ⟨#[116, 105, 109, 101]⟩, .int .i64 6, .string ⟨#[]⟩, .int .i64 100, .int .i64 21, .string ⟨#[109, 101, 109, 98, 101, 114]⟩, .int .i64 1, .string ⟨#[]⟩, .int .i64 1, .int .i64 37]).alloc (.cells #[.string ⟨#[97, 103, 101]⟩, .int .i64 3, .string ⟨#[]⟩, .int .i64 18, .int .i64 51] 32)).alloc (.cells #[.slice (some ⟨X8.heap.size, 0, none⟩) 2 2, .slice (some ⟨(X8.heap.size + 1), 0, none⟩) 1 1] 33)).alloc (.cells #[.int .i64 1, .string ⟨#[97]⟩, .slice (some ⟨(X8.heap.size + 1 + 1), 0, none⟩) 2 2, .int .i64 4, .int .i64 0, .int .i64 0, .int .i64 0, .int .i64 0, .int .i64 0] 38)
  skip
  replace A1 := Lib.hid A1
  have A2 := ((Blk.new (X8.alloc (.cells #[.string ⟨#[116, 105, 109, 101]⟩, .int .i64 6, .string ⟨#[]⟩, .int .i64 100, .int .i64 21, .string ⟨#[109, 101, 109, 98, 101, 114]⟩, .int .i64 1, .string ⟨#[]⟩, .int .i64 1, .int .i64 37] 32)) 32 [.string ⟨#[97, 103, 101]⟩, .int .i64 3, .string ⟨#[]⟩, .int .i64 18, .int .i64 51]).alloc (.cells #[.slice (some ⟨X8.heap.size, 0, none⟩) 2 2, .slice (some ⟨(X8.heap.size + 1), 0, none⟩) 1 1] 33)).alloc (.cells #[.int .i64 1, .string ⟨#[97]⟩, .slice (some ⟨(X8.heap.size + 1 + 1), 0, none⟩) 2 2, .int .i64 4, .int .i64 0, .int .i64 0, .int .i64 0, .int .i64 0, .int .i64 0] 38)
  simp only [World.size_alloc] at A2
  replace A2 := Lib.hid A2
  have A3 := (Blk.new ((X8.alloc (.cells #[.string ⟨#[116, 105, 109, 101]⟩, .int .i64 6, .string ⟨#[]⟩, .int .i64 100, .int .i64 21, .string ⟨#[109, 101, 109, 98, 101, 114]⟩, .int .i64 1, .string ⟨#[]⟩, .int .i64 1, .int .i64 37] 32)).alloc (.cells #[.string ⟨#[97, 103, 101]⟩, .int .i64 3, .string ⟨#[]⟩, .int .i64 18, .int .i64 51] 32)) 33 [.slice (some ⟨X8.heap.size, 0, none⟩) 2 2, .slice (some ⟨(X8.heap.size + 1), 0, none⟩) 1 1]).alloc (.cells #[.int .i64 1, .string ⟨#[97]⟩, .slice (some ⟨(X8.heap.size + 1 + 1), 0, none⟩) 2 2, .int .i64 4, .int .i64 0, .int .i64 0, .int .i64 0, .int .i64 0, .int .i64 0] 38)
  simp only [World.size_alloc] at A3
  replace A3 := Lib.hid A3
  have W1 := Blk.new (((X8.alloc (.cells #[.string ⟨#[116, 105, 109, 101]⟩, .int .i64 6, .string ⟨#[]⟩, .int .i64 100, .int .i64 21, .string ⟨#[109, 101, 109, 98, 101, 114]⟩, .int .i64 1, .string ⟨#[]⟩, .int .i64 1, .int .i64 37] 32)).alloc (.cells #[.string ⟨#[97, 103, 101]⟩, .int .i64 3, .string ⟨#[]⟩, .int .i64 18, .int .i64 51] 32)).alloc (.cells #[.slice (some ⟨X8.heap.size, 0, none⟩) 2 2, .slice (some ⟨(X8.heap.size + 1), 0, none⟩) 1 1] 33)) 38 [.int .i64 1, .string ⟨#[97]⟩, .slice (some ⟨(X8.heap.size + 1 + 1), 0, none⟩) 2 2, .int .i64 4, .int .i64 0, .int .i64 0, .int .i64 0, .int .i64 0, .int .i64 0]
  simp only [World.size_alloc] at W1
  replace W1 := Lib.hid W1
  have HX9 := Lib.hid (HX8.out.trans (hbk.mono HX8.out.size))
  clear hbk HX8
  go_upto_region 12 with fail
  generalize ((((X8.alloc (.cells #[.string ⟨#[116, 105, 109, 101]⟩, .int .i64 6, .string ⟨#[]⟩, .int .i64 100, .int .i64 21, .string ⟨#[109, 101, 109, 98, 101, 114]⟩, .int .i64 1, .string ⟨#[]⟩, .int .i64 1, .int .i64 37] 32)).alloc (.cells #[.string ⟨#[97, 103, 101]⟩, .int .i64 3, .string ⟨#[]⟩, .int .i64 18, .int .i64 51] 32)).alloc (.cells #[.slice (some ⟨X8.heap.size, 0, none⟩) 2 2, .slice (some ⟨(X8.heap.size + 1), 0, none⟩) 1 1] 33)).alloc (.cells #[.int .i64 1, .string ⟨#[97]⟩, .slice (some ⟨(X8.heap.size + 1 + 1), 0, none⟩) 2 2, .int .i64 4, .int .i64 0, .int .i64 0, .int .i64 0, .int .i64 0, .int .i64 0] 38)) = X9 at *
  generalize X8.heap.size + 1 + 1 + 1 = nW1 at *
  generalize X8.heap.size + 1 + 1 = nA3 at *
  generalize X8.heap.size + 1 = nA2 at *
  generalize X8.heap.size = nA1 at *
  clear eT10 eT11 eT12 eT13 eT14 eT15 eT20 eT21 eT22 eT23 eT24 eT25 eT30 eT31 eT32 eT33 eT34 eT35
  have hbk : Below X9.heap.size X9 (X9.alloc (.cells #[.int .i64 3, .string ⟨#[112]⟩, .slice none 0 0, .int .i64 5000, .int .i64 1, .int .i64 10, .int .i64 0, .int .i64 1, .int .i64 0] 38)) := ((Below.refl X9.heap.size X9).alloc (Nat.le_refl _) (.cells #[.int .i64 3, .string ⟨#[112]⟩, .slice none 0 0, .int .i64 5000, .int .i64 1, .int .i64 10, .int .i64 0, .int .i64 1, .int .i64 0] 38))
  replace C1 := Lib.hid (fun (j : Nat) (u : Value) (hj : (itemCl 1 [97] (.slice sa1 sn1 sc1) ⟨4, 0, 0, 0, 0⟩ 0)[j]? = some u) => (hbk.cell (p := ⟨g1, j, none⟩) GL1.out).trans (C1.out j u hj))
  replace GL1 := Lib.hid (Nat.lt_of_lt_of_le GL1.out hbk.size)
  replace L1 := Lib.hid (L1.out.below hbk)
  replace V1 := Lib.hid (V1.out.below hbk)
  replace C2 := Lib.hid (fun (j : Nat) (u : Value) (hj : (itemCl 3 [112] (.slice sa2 sn2 sc2) ⟨5000, 1, 10, 0, 1⟩ 0)[j]? = some u) => (hbk.cell (p := ⟨g2, j, none⟩) GL2.out).trans (C2.out j u hj))
  replace GL2 := Lib.hid (Nat.lt_of_lt_of_le GL2.out hbk.size)
  replace L2 := Lib.hid (L2.out.below hbk)
  replace V2 := Lib.hid (V2.out.below hbk)
  replace C3 := Lib.hid (fun (j : Nat) (u : Value) (hj : (itemCl 2 [100] (.slice sa3 sn3 sc3) ⟨0, 0, 0, 0, 0⟩ 0)[j]? = some u) => (hbk.cell (p := ⟨g3, j, none⟩) GL3.out).trans (C3.out j u hj))
  replace GL3 := Lib.hid (Nat.lt_of_lt_of_le GL3.out hbk.size)
  replace L3 := Lib.hid (L3.out.below hbk)
  replace V3 := Lib.hid (V3.out.below hbk)
  replace V4 := Lib.hid (V4.out.below hbk)
  replace V5 := Lib.hid (V5.out.below hbk)
  replace T1 := Lib.hid (T1.out.below hbk)
  replace T2 := Lib.hid (T2.out.below hbk)
  replace T3 := Lib.hid (T3.out.below hbk)
  replace W1 := Lib.hid (W1.out.below hbk)
  replace A3 := Lib.hid (A3.out.below hbk)
  replace A2 := Lib.hid (A2.out.below hbk)
  replace A1 := Lib.hid (A1.out.below hbk)
  have W2 := Blk.new X9 38 [.int .i64 3, .string ⟨#[112]⟩, .slice none 0 0, .int .i64 5000, .int .i64 1, .int .i64 10, .int .i64 0, .int .i64 1, .int .i64 0]
  skip
  replace W2 := Lib.hid W2
  have HX10 := Lib.hid (HX9.out.trans (hbk.mono HX9.out.size))
  clear hbk HX9
  go_upto_region 13 with fail
  generalize (X9.alloc (.cells #[.int .i64 3, .string ⟨#[112]⟩, .slice none 0 0, .int .i64 5000, .int .i64 1, .int .i64 10, .int .i64 0, .int .i64 1, .int .i64 0] 38)) = X10 at *
  generalize X9.heap.size = nW2 at *
  have hbk : Below X10.heap.size X10 (((X10.alloc (.cells #[.string ⟨#[98, 108, 111, 99, 107]⟩, .int .i64 1, .string ⟨#[115, 116, 97, 108, 108, 115, 46, 97]⟩, .int .i64 0, .int .i64 12] 32)).alloc (.cells #[.slice (some ⟨X10.heap.size, 0, none⟩) 1 1] 33)).alloc (.cells #[.int .i64 2, .string ⟨#[100]⟩, .slice (some ⟨(X10.heap.size + 1), 0, none⟩) 1 1, .int .i64 0, .int .i64 0, .int .i64 0, .int .i64 0, .int .i64 0, .int .i64 0] 38)) := ((((Below.refl X10.heap.size X10).alloc (Nat.le_refl _) (.cells #[.string ⟨#[98, 108, 111, 99, 107]⟩, .int .i64 1, .string ⟨#[115, 116, 97, 108, 108, 115, 46, 97]⟩, .int .i64 0, .int .i64 12] 32)).alloc (by simp only [World.size_alloc]; omega) (.cells #[.slice (some ⟨X10.heap.size, 0, none⟩) 1 1] 33)).alloc (by simp only [World.size_alloc]; omega) (.cells #[.int .i64 2, .string ⟨#[100]⟩, .slice (some ⟨(X10.heap.size + 1), 0, none⟩) 1 1, .int .i64 0, .int .i64 0, .int .i64 0, .int .i64 0, .int .i64 0, .int .i64 0] 38))
  replace C1 := Lib.hid (fun (j : Nat) (u : Value) (hj : (itemCl 1 [97] (.slice sa1 sn1 sc1) ⟨4, 0, 0, 0, 0⟩ 0)[j]? = some u) => (hbk.cell (p := ⟨g1, j, none⟩) GL1.out).trans (C1.out j u hj))
  replace GL1 := Lib.hid (Nat.lt_of_lt_of_le GL1.out hbk.size)
  replace L1 := Lib.hid (L1.out.below hbk)
  replace V1 := Lib.hid (V1.out.below hbk)
  replace C2 := Lib.hid (fun (j : Nat) (u : Value) (hj : (itemCl 3 [112] (.slice sa2 sn2 sc2) ⟨5000, 1, 10, 0, 1⟩ 0)[j]? = some u) => (hbk.cell (p := ⟨g2, j, none⟩) GL2.out).trans (C2.out j u hj))
  replace GL2 := Lib.hid (Nat.lt_of_lt_of_le GL2.out hbk.size)
  replace L2 := Lib.hid (L2.out.below hbk)
  replace V2 := Lib.hid (V2.out.below hbk)
  replace C3 := Lib.hid (fun (j : Nat) (u : Value) (hj : (itemCl 2 [100] (.slice sa3 sn3 sc3) ⟨0, 0, 0, 0, 0⟩ 0)[j]? = some u) => (hbk.cell (p := ⟨g3, j, none⟩) GL3.out).trans (C3.out j u hj))
  replace GL3 := Lib.hid (Nat.lt_of_lt_of_le GL3.out hbk.size)
  replace L3 := Lib.hid (L3.out.below hbk)
  replace V3 := Lib.hid (V3.out.below hbk)
  replace V4 := Lib.hid (V4.out.below hbk)
  replace V5 := Lib.hid (V5.out.below hbk)
  replace T1 := Lib.hid (T1.out.below hbk)
  replace T2 := Lib.hid (T2.out.below hbk)
  replace T3 := Lib.hid (T3.out.below hbk)
  replace W1 := Lib.hid (W1.out.below hbk)
  replace A3 := Lib.hid (A3.out.below hbk)
  replace A2 := Lib.hid (A2.out.below hbk)
  replace A1 := Lib.hid (A1.out.below hbk)
  replace W2 := Lib.hid (W2.out.below hbk)
  have B1 := ((Blk.new X10 32 [.string ⟨#[98, 108, 111, 99, 107]⟩, .int .i64 1, .string ⟨#[115, 116, 97, 108, 108, 115, 46, 97]⟩, .int .i64 0, .int .i64 12]).alloc (.cells #[.slice (some ⟨X10.heap.size, 0, none⟩) 1 1] 33)).alloc (.cells #[.int .i64 2, .string ⟨#[100]⟩, .slice (some ⟨(X10.heap.size + 1), 0, none⟩) 1 1, .int .i64 0, .int .i64 0, .int .i64 0, .int .i64 0, .int .i64 0, .int .i64 0] 38)
  skip
  replace B1 := Lib.hid B1
  have B2 := (Blk.new (X10.alloc (.cells #[.string ⟨#[98, 108, 111, 99, 107]⟩, .int .i64 1, .string ⟨#[115, 116, 97, 108, 108, 115, 46, 97]⟩, .int .i64 0, .int .i64 12] 32)) 33 [.slice (some ⟨X10.heap.size, 0, none⟩) 1 1]).alloc (.cells #[.int .i64 2, .string ⟨#[100]⟩, .slice (some ⟨(X10.heap.size + 1), 0, none⟩) 1 1, .int .i64 0, .int .i64 0, .int .i64 0, .int .i64 0, .int .i64 0, .int .i64 0] 38)
  simp only [World.size_alloc] at B2
  replace B2 := Lib.hid B2
  have W3 := Blk.new ((X10.alloc (.cells #[.string ⟨#[98, 108, 111, 99, 107]⟩, .int .i64 1, .string ⟨#[115, 116, 97, 108, 108, 115, 46, 97]⟩, .int .i64 0, .int .i64 12] 32)).alloc (.cells #[.slice (some ⟨X10.heap.size, 0, none⟩) 1 1] 33)) 38 [.int .i64 2, .string ⟨#[100]⟩, .slice (some ⟨(X10.heap.size + 1), 0, none⟩) 1 1, .int .i64 0, .int .i64 0, .int .i64 0, .int .i64 0, .int .i64 0, .int .i64 0]
  simp only [World.size_alloc] at W3
  replace W3 := Lib.hid W3
  have HX11 := Lib.hid (HX10.out.trans (hbk.mono HX10.out.size))
  clear hbk HX10
  go_upto_region 14 with fail
  generalize (((X10.alloc (.cells #[.string ⟨#[98, 108, 111, 99, 107]⟩, .int .i64 1, .string ⟨#[115, 116, 97, 108, 108, 115, 46, 97]⟩, .int .i64 0, .int .i64 12] 32)).alloc (.cells #[.slice (some ⟨X10.heap.size, 0, none⟩) 1 1] 33)).alloc (.cells #[.int .i64 2, .string ⟨#[100]⟩, .slice (some ⟨(X10.heap.size + 1), 0, none⟩) 1 1, .int .i64 0, .int .i64 0, .int .i64 0, .int .i64 0, .int .i64 0, .int .i64 0] 38)) = X11 at *
  generalize X10.heap.size + 1 + 1 = nW3 at *
  generalize X10.heap.size + 1 = nB2 at *
  generalize X10.heap.size = nB1 at *
  have M1 : IsList testsK X11 (fun _ => True) 33 (.slice (some ⟨nA3, 0, none⟩) 2 2) [[⟨[116, 105, 109, 101], 6, [], 100, 21⟩, ⟨[109, 101, 109, 98, 101, 114], 1, [], 1, 37⟩], [⟨[97, 103, 101], 3, [], 18, 51⟩]] := list_made (K := testsK) (F := fun _ => True) (css := [[.slice (some ⟨nA1, 0, none⟩) 2 2], [.slice (some ⟨nA2, 0, none⟩) 1 1]]) A3.out trivial (.cons ⟨_, rfl, list_made (K := testK) (F := fun _ => True) (css := [[.string ⟨#[116, 105, 109, 101]⟩, .int .i64 6, .string ⟨#[]⟩, .int .i64 100, .int .i64 21], [.string ⟨#[109, 101, 109, 98, 101, 114]⟩, .int .i64 1, .string ⟨#[]⟩, .int .i64 1, .int .i64 37]]) A1.out trivial (.cons rfl (.cons rfl .nil)) rfl (by decide)⟩ (.cons ⟨_, rfl, list_made (K := testK) (F := fun _ => True) (css := [[.string ⟨#[97, 103, 101]⟩, .int .i64 3, .string ⟨#[]⟩, .int .i64 18, .int .i64 51]]) A2.out trivial (.cons rfl .nil) rfl (by decide)⟩ .nil)) rfl (by decide)
  have M2 : IsList testsK X11 (fun _ => True) 33 (.slice none 0 0) [] := nil_is _ _ _ _
  have M3 : IsList testsK X11 (fun _ => True) 33 (.slice (some ⟨nB2, 0, none⟩) 1 1) [[⟨[98, 108, 111, 99, 107], 1, [115, 116, 97, 108, 108, 115, 46, 97], 0, 12⟩]] := list_made (K := testsK) (F := fun _ => True) (css := [[.slice (some ⟨nB1, 0, none⟩) 1 1]]) B2.out trivial (.cons ⟨_, rfl, list_made (K := testK) (F := fun _ => True) (css := [[.string ⟨#[98, 108, 111, 99, 107]⟩, .int .i64 1, .string ⟨#[115, 116, 97, 108, 108, 115, 46, 97]⟩, .int .i64 0, .int .i64 12]]) B1.out trivial (.cons rfl .nil) rfl (by decide)⟩ .nil) rfl (by decide)
  replace M1 := Lib.hid M1
  replace M2 := Lib.hid M2
  replace M3 := Lib.hid M3
  refine wp_region_any (by kernel_rfl) ?_
  have hS : Below X11.heap.size X11 X11.drew := (Below.refl _ _).drew
  refine any_of_held (S := fun W => Below X11.heap.size X11 W) (N := []) _ _ _ _ ?_
  change held _ _ _ _ _ _ _ _ _ X11.drew
  obtain ⟨wa, hwa⟩ : ∃ wa, X11.drew = wa := ⟨_, rfl⟩
  rw [hwa] at hS ⊢
  clear hwa
  refine held_take [] (i := 0) (v := .int .i64 0) rfl (by kernel_rfl) (fun _ _ _ h => h) (Or.inl ⟨by rfl, fun w' hS => by go_simp⟩) hS ?_
  try simp only [Act.put, List.setIfInBounds_toArray, List.set_cons_zero, List.set_cons_succ]
  refine held_take [] (i := 1) (v := .bool true) rfl (by kernel_rfl) (fun _ _ _ h => h) (Or.inl ⟨by rfl, fun w' hS => by go_simp⟩) hS ?_
  try simp only [Act.put, List.setIfInBounds_toArray, List.set_cons_zero, List.set_cons_succ]
  refine held_take [] (i := 2) (v := .bool true) rfl (by kernel_rfl) (fun _ _ _ h => h) (Or.inl ⟨by rfl, fun w' hS => by go_simp⟩) hS ?_
  try simp only [Act.put, List.setIfInBounds_toArray, List.set_cons_zero, List.set_cons_succ]
  refine held_take [] (i := 3) (v := .pointer (some ⟨v1, 0, none⟩)) rfl (by kernel_rfl) (fun _ _ _ h => h) (Or.inl ⟨by rfl, fun w' hS => by go_simp⟩) hS ?_
  try simp only [Act.put, List.setIfInBounds_toArray, List.set_cons_zero, List.set_cons_succ]
  refine held_take [] (i := 4) (v := .slice (some ⟨g1, 0, none⟩) 1 cap1) rfl (by kernel_rfl) (fun _ _ _ h => h) (Or.inl ⟨by rfl, fun w' hS => by have := (hS.cell (p := ⟨v1, 0, none⟩) V1.out.lt).trans (V1.out.cell (i := 0) rfl); go_simp⟩) hS ?_
  try simp only [Act.put, List.setIfInBounds_toArray, List.set_cons_zero, List.set_cons_succ]
  refine held_take [] (i := 5) (v := .pointer (some ⟨g1, 0, none⟩)) rfl (by kernel_rfl) (fun _ _ _ h => h) (Or.inl ⟨by rfl, fun w' hS => by go_simp⟩) hS ?_
  try simp only [Act.put, List.setIfInBounds_toArray, List.set_cons_zero, List.set_cons_succ]
  refine held_take [] (i := 6) (v := .agg #[.int .i64 1, .string ⟨#[97]⟩, .slice sa1 sn1 sc1, .int .i64 4, .int .i64 0, .int .i64 0, .int .i64 0, .int .i64 0, .int .i64 0]) rfl (by kernel_rfl) (fun _ _ _ h => h) (Or.inl ⟨by rfl, fun w' hS => by have c0 : w'.cell? ⟨g1, 0, none⟩ = some (.int .i64 1) := (hS.cell (p := ⟨g1, 0, none⟩) GL1.out).trans (C1.out 0 _ rfl); have c1 : w'.cell? ⟨g1, 1, none⟩ = some (.string ⟨#[97]⟩) := (hS.cell (p := ⟨g1, 1, none⟩) GL1.out).trans (C1.out 1 _ rfl); have c2 : w'.cell? ⟨g1, 2, none⟩ = some (.slice sa1 sn1 sc1) := (hS.cell (p := ⟨g1, 2, none⟩) GL1.out).trans (C1.out 2 _ rfl); have c3 : w'.cell? ⟨g1, 3, none⟩ = some (.int .i64 4) := (hS.cell (p := ⟨g1, 3, none⟩) GL1.out).trans (C1.out 3 _ rfl); have c4 : w'.cell? ⟨g1, 4, none⟩ = some (.int .i64 0) := (hS.cell (p := ⟨g1, 4, none⟩) GL1.out).trans (C1.out 4 _ rfl); have c5 : w'.cell? ⟨g1, 5, none⟩ = some (.int .i64 0) := (hS.cell (p := ⟨g1, 5, none⟩) GL1.out).trans (C1.out 5 _ rfl); have c6 : w'.cell? ⟨g1, 6, none⟩ = some (.int .i64 0) := (hS.cell (p := ⟨g1, 6, none⟩) GL1.out).trans (C1.out 6 _ rfl); have c7 : w'.cell? ⟨g1, 7, none⟩ = some (.int .i64 0) := (hS.cell (p := ⟨g1, 7, none⟩) GL1.out).trans (C1.out 7 _ rfl); have c8 : w'.cell? ⟨g1, 8, none⟩ = some (.int .i64 0) := (hS.cell (p := ⟨g1, 8, none⟩) GL1.out).trans (C1.out 8 _ rfl); go_simp⟩) hS ?_
  try simp only [Act.put, List.setIfInBounds_toArray, List.set_cons_zero, List.set_cons_succ]
  refine held_take [] (i := 7) (v := .agg #[.int .i64 1, .string ⟨#[97]⟩, .slice (some ⟨nA3, 0, none⟩) 2 2, .int .i64 4, .int .i64 0, .int .i64 0, .int .i64 0, .int .i64 0, .int .i64 0]) rfl (by kernel_rfl) (fun _ _ _ h => h) (Or.inl ⟨by rfl, fun w' hS => by have c0 := (hS.cell (p := ⟨nW1, 0, none⟩) W1.out.lt).trans (W1.out.cell (i := 0) rfl); have c1 := (hS.cell (p := ⟨nW1, 1, none⟩) W1.out.lt).trans (W1.out.cell (i := 1) rfl); have c2 := (hS.cell (p := ⟨nW1, 2, none⟩) W1.out.lt).trans (W1.out.cell (i := 2) rfl); have c3 := (hS.cell (p := ⟨nW1, 3, none⟩) W1.out.lt).trans (W1.out.cell (i := 3) rfl); have c4 := (hS.cell (p := ⟨nW1, 4, none⟩) W1.out.lt).trans (W1.out.cell (i := 4) rfl); have c5 := (hS.cell (p := ⟨nW1, 5, none⟩) W1.out.lt).trans (W1.out.cell (i := 5) rfl); have c6 := (hS.cell (p := ⟨nW1, 6, none⟩) W1.out.lt).trans (W1.out.cell (i := 6) rfl); have c7 := (hS.cell (p := ⟨nW1, 7, none⟩) W1.out.lt).trans (W1.out.cell (i := 7) rfl); have c8 := (hS.cell (p := ⟨nW1, 8, none⟩) W1.out.lt).trans (W1.out.cell (i := 8) rfl); go_simp⟩) hS ?_
  try simp only [Act.put, List.setIfInBounds_toArray, List.set_cons_zero, List.set_cons_succ]
  refine held_one (i := 8) rfl (by kernel_rfl) (fun K hK => ?_)
  try rw [if_pos (by kernel_rfl)]
  go_simp
  refine (sameItemv_true (⟨1, [97], [[⟨[116, 105, 109, 101], 6, [], 100, 21⟩, ⟨[109, 101, 109, 98, 101, 114], 1, [], 1, 37⟩], [⟨[97, 103, 101], 3, [], 18, 51⟩]], ⟨4, 0, 0, 0, 0⟩, 0⟩ : ItemP) (⟨1, [97], [[⟨[116, 105, 109, 101], 6, [], 100, 21⟩, ⟨[109, 101, 109, 98, 101, 114], 1, [], 1, 37⟩], [⟨[97, 103, 101], 3, [], 18, 51⟩]], ⟨4, 0, 0, 0, 0⟩, 0⟩ : ItemP) rfl _ _ _ _ wa (L1.out.below hS) (M1.out.below hS)).mono ?_
  rintro e W1b ⟨rfl, hw1⟩
  have hS1 : Below X11.heap.size X11 W1b := hS.trans (hw1.mono hS.size)
  clear hS hw1
  refine hK.out _ _ (fun _ => hS1) ?_
  clear hK K
  try simp only [Act.put, List.setIfInBounds_toArray, List.set_cons_zero, List.set_cons_succ]
  refine held_take [] (i := 9) (v := .bool true) rfl (by kernel_rfl) (fun _ _ _ h => h) (Or.inl ⟨by rfl, fun w' hS => by go_simp⟩) hS1 ?_
  try simp only [Act.put, List.setIfInBounds_toArray, List.set_cons_zero, List.set_cons_succ]
  refine held_take [] (i := 10) (v := .bool true) rfl (by kernel_rfl) (fun _ _ _ h => h) (Or.inl ⟨by rfl, fun w' hS => by go_simp⟩) hS1 ?_
  try simp only [Act.put, List.setIfInBounds_toArray, List.set_cons_zero, List.set_cons_succ]
  refine held_take [] (i := 11) (v := .pointer (some ⟨v2, 0, none⟩)) rfl (by kernel_rfl) (fun _ _ _ h => h) (Or.inl ⟨by rfl, fun w' hS => by go_simp⟩) hS1 ?_
  try simp only [Act.put, List.setIfInBounds_toArray, List.set_cons_zero, List.set_cons_succ]
  refine held_take [] (i := 12) (v := .slice (some ⟨g2, 0, none⟩) 1 cap2) rfl (by kernel_rfl) (fun _ _ _ h => h) (Or.inl ⟨by rfl, fun w' hS => by have := (hS.cell (p := ⟨v2, 0, none⟩) V2.out.lt).trans (V2.out.cell (i := 0) rfl); go_simp⟩) hS1 ?_
  try simp only [Act.put, List.setIfInBounds_toArray, List.set_cons_zero, List.set_cons_succ]
  refine held_take [] (i := 13) (v := .pointer (some ⟨g2, 0, none⟩)) rfl (by kernel_rfl) (fun _ _ _ h => h) (Or.inl ⟨by rfl, fun w' hS => by go_simp⟩) hS1 ?_
  try simp only [Act.put, List.setIfInBounds_toArray, List.set_cons_zero, List.set_cons_succ]
  refine held_take [] (i := 14) (v := .agg #[.int .i64 3, .string ⟨#[112]⟩, .slice sa2 sn2 sc2, .int .i64 5000, .int .i64 1, .int .i64 10, .int .i64 0, .int .i64 1, .int .i64 0]) rfl (by kernel_rfl) (fun _ _ _ h => h) (Or.inl ⟨by rfl, fun w' hS => by have c0 : w'.cell? ⟨g2, 0, none⟩ = some (.int .i64 3) := (hS.cell (p := ⟨g2, 0, none⟩) GL2.out).trans (C2.out 0 _ rfl); have c1 : w'.cell? ⟨g2, 1, none⟩ = some (.string ⟨#[112]⟩) := (hS.cell (p := ⟨g2, 1, none⟩) GL2.out).trans (C2.out 1 _ rfl); have c2 : w'.cell? ⟨g2, 2, none⟩ = some (.slice sa2 sn2 sc2) := (hS.cell (p := ⟨g2, 2, none⟩) GL2.out).trans (C2.out 2 _ rfl); have c3 : w'.cell? ⟨g2, 3, none⟩ = some (.int .i64 5000) := (hS.cell (p := ⟨g2, 3, none⟩) GL2.out).trans (C2.out 3 _ rfl); have c4 : w'.cell? ⟨g2, 4, none⟩ = some (.int .i64 1) := (hS.cell (p := ⟨g2, 4, none⟩) GL2.out).trans (C2.out 4 _ rfl); have c5 : w'.cell? ⟨g2, 5, none⟩ = some (.int .i64 10) := (hS.cell (p := ⟨g2, 5, none⟩) GL2.out).trans (C2.out 5 _ rfl); have c6 : w'.cell? ⟨g2, 6, none⟩ = some (.int .i64 0) := (hS.cell (p := ⟨g2, 6, none⟩) GL2.out).trans (C2.out 6 _ rfl); have c7 : w'.cell? ⟨g2, 7, none⟩ = some (.int .i64 1) := (hS.cell (p := ⟨g2, 7, none⟩) GL2.out).trans (C2.out 7 _ rfl); have c8 : w'.cell? ⟨g2, 8, none⟩ = some (.int .i64 0) := (hS.cell (p := ⟨g2, 8, none⟩) GL2.out).trans (C2.out 8 _ rfl); go_simp⟩) hS1 ?_
  try simp only [Act.put, List.setIfInBounds_toArray, List.set_cons_zero, List.set_cons_succ]
  refine held_take [] (i := 15) (v := .agg #[.int .i64 3, .string ⟨#[112]⟩, .slice none 0 0, .int .i64 5000, .int .i64 1, .int .i64 10, .int .i64 0, .int .i64 1, .int .i64 0]) rfl (by kernel_rfl) (fun _ _ _ h => h) (Or.inl ⟨by rfl, fun w' hS => by have c0 := (hS.cell (p := ⟨nW2, 0, none⟩) W2.out.lt).trans (W2.out.cell (i := 0) rfl); have c1 := (hS.cell (p := ⟨nW2, 1, none⟩) W2.out.lt).trans (W2.out.cell (i := 1) rfl); have c2 := (hS.cell (p := ⟨nW2, 2, none⟩) W2.out.lt).trans (W2.out.cell (i := 2) rfl); have c3 := (hS.cell (p := ⟨nW2, 3, none⟩) W2.out.lt).trans (W2.out.cell (i := 3) rfl); have c4 := (hS.cell (p := ⟨nW2, 4, none⟩) W2.out.lt).trans (W2.out.cell (i := 4) rfl); have c5 := (hS.cell (p := ⟨nW2, 5, none⟩) W2.out.lt).trans (W2.out.cell (i := 5) rfl); have c6 := (hS.cell (p := ⟨nW2, 6, none⟩) W2.out.lt).trans (W2.out.cell (i := 6) rfl); have c7 := (hS.cell (p := ⟨nW2, 7, none⟩) W2.out.lt).trans (W2.out.cell (i := 7) rfl); have c8 := (hS.cell (p := ⟨nW2, 8, none⟩) W2.out.lt).trans (W2.out.cell (i := 8) rfl); go_simp⟩) hS1 ?_
  try simp only [Act.put, List.setIfInBounds_toArray, List.set_cons_zero, List.set_cons_succ]
  refine held_one (i := 16) rfl (by kernel_rfl) (fun K hK => ?_)
  try rw [if_pos (by kernel_rfl)]
  go_simp
  refine (sameItemv_true (⟨3, [112], [], ⟨5000, 1, 10, 0, 1⟩, 0⟩ : ItemP) (⟨3, [112], [], ⟨5000, 1, 10, 0, 1⟩, 0⟩ : ItemP) rfl _ _ _ _ W1b (L2.out.below hS1) (M2.out.below hS1)).mono ?_
  rintro e W2b ⟨rfl, hw2⟩
  have hS2 : Below X11.heap.size X11 W2b := hS1.trans (hw2.mono hS1.size)
  clear hS1 hw2
  refine hK.out _ _ (fun _ => hS2) ?_
  clear hK K
  try simp only [Act.put, List.setIfInBounds_toArray, List.set_cons_zero, List.set_cons_succ]
  refine held_take [] (i := 17) (v := .bool true) rfl (by kernel_rfl) (fun _ _ _ h => h) (Or.inl ⟨by rfl, fun w' hS => by go_simp⟩) hS2 ?_
  try simp only [Act.put, List.setIfInBounds_toArray, List.set_cons_zero, List.set_cons_succ]
  refine held_take [] (i := 18) (v := .bool true) rfl (by kernel_rfl) (fun _ _ _ h => h) (Or.inl ⟨by rfl, fun w' hS => by go_simp⟩) hS2 ?_
  try simp only [Act.put, List.setIfInBounds_toArray, List.set_cons_zero, List.set_cons_succ]
  refine held_take [] (i := 19) (v := .pointer (some ⟨v3, 0, none⟩)) rfl (by kernel_rfl) (fun _ _ _ h => h) (Or.inl ⟨by rfl, fun w' hS => by go_simp⟩) hS2 ?_
  try simp only [Act.put, List.setIfInBounds_toArray, List.set_cons_zero, List.set_cons_succ]
  refine held_take [] (i := 20) (v := .slice (some ⟨g3, 0, none⟩) 1 cap3) rfl (by kernel_rfl) (fun _ _ _ h => h) (Or.inl ⟨by rfl, fun w' hS => by have := (hS.cell (p := ⟨v3, 0, none⟩) V3.out.lt).trans (V3.out.cell (i := 0) rfl); go_simp⟩) hS2 ?_
  try simp only [Act.put, List.setIfInBounds_toArray, List.set_cons_zero, List.set_cons_succ]
  refine held_take [] (i := 21) (v := .pointer (some ⟨g3, 0, none⟩)) rfl (by kernel_rfl) (fun _ _ _ h => h) (Or.inl ⟨by rfl, fun w' hS => by go_simp⟩) hS2 ?_
  try simp only [Act.put, List.setIfInBounds_toArray, List.set_cons_zero, List.set_cons_succ]
  refine held_take [] (i := 22) (v := .agg #[.int .i64 2, .string ⟨#[100]⟩, .slice sa3 sn3 sc3, .int .i64 0, .int .i64 0, .int .i64 0, .int .i64 0, .int .i64 0, .int .i64 0]) rfl (by kernel_rfl) (fun _ _ _ h => h) (Or.inl ⟨by rfl, fun w' hS => by have c0 : w'.cell? ⟨g3, 0, none⟩ = some (.int .i64 2) := (hS.cell (p := ⟨g3, 0, none⟩) GL3.out).trans (C3.out 0 _ rfl); have c1 : w'.cell? ⟨g3, 1, none⟩ = some (.string ⟨#[100]⟩) := (hS.cell (p := ⟨g3, 1, none⟩) GL3.out).trans (C3.out 1 _ rfl); have c2 : w'.cell? ⟨g3, 2, none⟩ = some (.slice sa3 sn3 sc3) := (hS.cell (p := ⟨g3, 2, none⟩) GL3.out).trans (C3.out 2 _ rfl); have c3 : w'.cell? ⟨g3, 3, none⟩ = some (.int .i64 0) := (hS.cell (p := ⟨g3, 3, none⟩) GL3.out).trans (C3.out 3 _ rfl); have c4 : w'.cell? ⟨g3, 4, none⟩ = some (.int .i64 0) := (hS.cell (p := ⟨g3, 4, none⟩) GL3.out).trans (C3.out 4 _ rfl); have c5 : w'.cell? ⟨g3, 5, none⟩ = some (.int .i64 0) := (hS.cell (p := ⟨g3, 5, none⟩) GL3.out).trans (C3.out 5 _ rfl); have c6 : w'.cell? ⟨g3, 6, none⟩ = some (.int .i64 0) := (hS.cell (p := ⟨g3, 6, none⟩) GL3.out).trans (C3.out 6 _ rfl); have c7 : w'.cell? ⟨g3, 7, none⟩ = some (.int .i64 0) := (hS.cell (p := ⟨g3, 7, none⟩) GL3.out).trans (C3.out 7 _ rfl); have c8 : w'.cell? ⟨g3, 8, none⟩ = some (.int .i64 0) := (hS.cell (p := ⟨g3, 8, none⟩) GL3.out).trans (C3.out 8 _ rfl); go_simp⟩) hS2 ?_
  try simp only [Act.put, List.setIfInBounds_toArray, List.set_cons_zero, List.set_cons_succ]
  refine held_take [] (i := 23) (v := .agg #[.int .i64 2, .string ⟨#[100]⟩, .slice (some ⟨nB2, 0, none⟩) 1 1, .int .i64 0, .int .i64 0, .int .i64 0, .int .i64 0, .int .i64 0, .int .i64 0]) rfl (by kernel_rfl) (fun _ _ _ h => h) (Or.inl ⟨by rfl, fun w' hS => by have c0 := (hS.cell (p := ⟨nW3, 0, none⟩) W3.out.lt).trans (W3.out.cell (i := 0) rfl); have c1 := (hS.cell (p := ⟨nW3, 1, none⟩) W3.out.lt).trans (W3.out.cell (i := 1) rfl); have c2 := (hS.cell (p := ⟨nW3, 2, none⟩) W3.out.lt).trans (W3.out.cell (i := 2) rfl); have c3 := (hS.cell (p := ⟨nW3, 3, none⟩) W3.out.lt).trans (W3.out.cell (i := 3) rfl); have c4 := (hS.cell (p := ⟨nW3, 4, none⟩) W3.out.lt).trans (W3.out.cell (i := 4) rfl); have c5 := (hS.cell (p := ⟨nW3, 5, none⟩) W3.out.lt).trans (W3.out.cell (i := 5) rfl); have c6 := (hS.cell (p := ⟨nW3, 6, none⟩) W3.out.lt).trans (W3.out.cell (i := 6) rfl); have c7 := (hS.cell (p := ⟨nW3, 7, none⟩) W3.out.lt).trans (W3.out.cell (i := 7) rfl); have c8 := (hS.cell (p := ⟨nW3, 8, none⟩) W3.out.lt).trans (W3.out.cell (i := 8) rfl); go_simp⟩) hS2 ?_
  try simp only [Act.put, List.setIfInBounds_toArray, List.set_cons_zero, List.set_cons_succ]
  refine held_one (i := 24) rfl (by kernel_rfl) (fun K hK => ?_)
  try rw [if_pos (by kernel_rfl)]
  go_simp
  refine (sameItemv_true (⟨2, [100], [[⟨[98, 108, 111, 99, 107], 1, [115, 116, 97, 108, 108, 115, 46, 97], 0, 12⟩]], ⟨0, 0, 0, 0, 0⟩, 0⟩ : ItemP) (⟨2, [100], [[⟨[98, 108, 111, 99, 107], 1, [115, 116, 97, 108, 108, 115, 46, 97], 0, 12⟩]], ⟨0, 0, 0, 0, 0⟩, 0⟩ : ItemP) rfl _ _ _ _ W2b (L3.out.below hS2) (M3.out.below hS2)).mono ?_
  rintro e W3b ⟨rfl, hw3⟩
  have hS3 : Below X11.heap.size X11 W3b := hS2.trans (hw3.mono hS2.size)
  clear hS2 hw3
  refine hK.out _ _ (fun _ => hS3) ?_
  clear hK K
  try simp only [Act.put, List.setIfInBounds_toArray, List.set_cons_zero, List.set_cons_succ]
  refine held_take [] (i := 25) (v := .bool true) rfl (by kernel_rfl) (fun _ _ _ h => h) (Or.inl ⟨by rfl, fun w' hS => by go_simp⟩) hS3 ?_
  try simp only [Act.put, List.setIfInBounds_toArray, List.set_cons_zero, List.set_cons_succ]
  refine held_one (i := 26) rfl (by kernel_rfl) (fun K hK => ?_)
  go_simp
  refine hK.out _ _ (fun _ => hS3) ?_
  clear hK K
  try simp only [Act.put, List.setIfInBounds_toArray, List.set_cons_zero, List.set_cons_succ]
  refine held_done (by kernel_rfl) ?_ _
  rename_i KK hKK
  refine hKK _ _ ?_
  clear hKK KK
  have HF := Lib.hid (HX11.out.trans (hS3.mono HX11.out.size))
  clear hS3
  go_wp2
  exact bodyPost_ret (results_tmp rfl _ _ _) rfl ⟨rfl, HF.out⟩
end Go.Proofs.YtlfjdohjfmfcdabDoor
