/-
  The law MoneySums: its walk.
-/
import Derived.Test.YtdjilieadhnhcaaDoorHead
import Derived.Test.YtdjilieadhnhcaaDoorSlices
namespace Go.Proofs.YtdjilieadhnhcaaDoor
open Go.RowKit Go.Sort Go.Shelf Foyer.Money

/-! ### The numbers -/
theorem sumS_bad {l : List Int} (h : l.all valid = false) : sumS l = (0, 1) := by unfold sumS; rw [h]; rfl
theorem sumS_good {l : List Int} (h : l.all valid = true) : sumS l = if valid l.sum then (l.sum, 0) else (0, 2) := by unfold sumS; rw [h]; rfl
/-- Both lists, in the opposite order. -/
def turned (l m : List Int) : List Int := (l ++ m).reverse
theorem turned_length (l m : List Int) : (turned l m).length = l.length + m.length := by simp [turned, Nat.add_comm]
theorem turned_all (l m : List Int) : (turned l m).all valid = (l.all valid && m.all valid) := by simp [turned, Bool.and_comm]
theorem sum_reverse : ∀ l : List Int, l.reverse.sum = l.sum
  | [] => rfl
  | a :: l => by rw [List.reverse_cons, List.sum_append, sum_reverse l]; simp only [List.sum_cons, List.sum_nil]; omega
theorem turned_sum (l m : List Int) : (turned l m).sum = l.sum + m.sum := by unfold turned; rw [sum_reverse, List.sum_append]
theorem turned_take_l {l m : List Int} {j k : Nat} (h : k + j + 1 = l.length + m.length) (hj : j < l.length) : (turned l m).take (k + 1) = (turned l m).take k ++ [l.getD j 0] := by
  unfold turned
  have hk : k < (l ++ m).reverse.length := by simp; omega
  rw [List.take_succ_eq_append_getElem hk, List.getElem_reverse]
  have e : (l ++ m).length - 1 - k = j := by simp; omega
  simp only [e]
  rw [List.getElem_append_left hj, List.getD_eq_getElem?_getD, List.getElem?_eq_getElem hj]; rfl
theorem turned_take_m {l m : List Int} {j k : Nat} (h : k + j + 1 = l.length + m.length) (hj : ¬ j < l.length) : (turned l m).take (k + 1) = (turned l m).take k ++ [m.getD (j - l.length) 0] := by
  unfold turned
  have hk : k < (l ++ m).reverse.length := by simp; omega
  rw [List.take_succ_eq_append_getElem hk, List.getElem_reverse]
  have e : (l ++ m).length - 1 - k = j := by simp; omega
  simp only [e]
  rw [List.getElem_append_right (by omega), List.getD_eq_getElem?_getD, List.getElem?_eq_getElem (by omega)]; rfl

theorem rd_two (w : World) (a b : Int) (T : TypeId) : Rd (w.alloc (.cells #[.int .i64 a, .int .i64 b] T)) (some ⟨w.heap.size, 0, none⟩) [a, b] := by
  refine Or.inr ⟨w.heap.size, 0, rfl, by simp, fun j hj => ?_⟩
  match j, hj with
  | 0, _ => simp
  | 1, _ => simp

/-- A row that the call has made, as the functions that read it see it. -/
theorem rd_of_made {w : World} {B k : Nat} {v : Value} {zs : List Int} (h : w.ownsRow B 3 1 v k (zs.map (Value.int .i64))) (hk : zs.length = k) :
    ∃ p c, v = .slice p zs.length c ∧ Rd w p zs := by
  have hh := h
  rcases h.2 with ⟨rfl, rfl⟩ | ⟨g, cap, cur, rfl, _⟩
  · have e : zs = [] := List.eq_nil_of_length_eq_zero hk
    subst e
    exact ⟨none, 0, rfl, Or.inl rfl⟩
  · subst hk
    exact ⟨_, _, rfl, rd_of_own hh rfl⟩
theorem sumS_err {l : List Int} (h : l.all valid = true) : (sumS l).2 = 0 ∧ (sumS l).1 = l.sum ∧ valid l.sum = true ∨ (sumS l).2 = 2 ∧ (sumS l).1 = 0 ∧ valid l.sum = false := by
  rw [sumS_good h]
  cases hv : valid l.sum
  · exact Or.inr ⟨rfl, rfl, rfl⟩
  · exact Or.inl ⟨rfl, rfl, rfl⟩

set_option maxRecDepth 100000 in
set_option maxHeartbeats 2000000 in
theorem sums_short (l m : List Int) (p q : Option Addr) (c1 c2 : Nat) (w : World) (hl : l.length ≤ 100) (hm : m.length ≤ 100) (hp : Rd w p l) (hq : Rd w q m) (hE : Env w) :
    Calls Tryd.prog 4 #[.slice p l.length c1, .slice q m.length c2] w fun e w' => e = .returned (.bool true) ∧ RowKit.Below w.heap.size w w' := by
  obtain ⟨i0, hi, hz0, hz1, hz2⟩ := info_parts info3
  have HE := Lib.hid hE; clear hE
  have HS : Hid (Since w w) := RowKit.Below.refl _ _
  have HP := Lib.hid hp; have HQ := Lib.hid hq; clear hp hq
  go_enter Tryd.func4, Tryd.ntmps4
  go_wp2_with fail
  refine (head_any _ HE.out).mono ?_; rintro e w1 ⟨rfl, hb1⟩
  have HS := Lib.hid (HS.out.call hb1)
  clear hb1
  go_wp2
  go_loopw [6, 7] (fun v i wr => ∃ (j : Int) (k : Nat), -1 ≤ j ∧ j ≤ 199 ∧ i = .int .i64 j ∧ Hid ((k : Int) + j + 1 = l.length + m.length) ∧ wr.ownsRow w.heap.size 3 1 v k (((turned l m).take k).map (Value.int .i64)) ∧ Hid (Since w wr)) (fun _ i _ => (intOf i + 1).toNat)
  case atStart => exact ⟨l.length + m.length - 1, 0, by omega, by omega, rfl, Lib.hid (by show ((0 : Nat) : Int) + (l.length + m.length - 1) + 1 = _; omega), World.ownsRow_nil _ _ _ _, HS⟩
  case round =>
    clear HS
    obtain ⟨j, k, hj0, hj1, rfl, Hk, hown, HS⟩ := hrel
    by_cases hj : 0 ≤ j
    · obtain ⟨j, rfl⟩ := Int.eq_ofNat_of_zero_le hj
      have hk : k + j + 1 = l.length + m.length := by have := Hk.out; omega
      have hk2 : k ≤ 200 := by omega
      have HK := Lib.hid hk; clear hk Hk
      have hsz := HS.out.size
      by_cases hlt : j < l.length
      · rcases HP.out with e | ⟨b, off, rfl, hb, hc⟩
        · rw [e] at hlt; simp at hlt
        have hcj : wr.cell? ⟨b, off + j, none⟩ = some (.int .i64 (l.getD j 0)) := by rw [HS.out.cell hb]; exact hc j hlt
        have ht := turned_take_l HK.out hlt
        have HT := Lib.hid ht
        clear hc ht
        generalize l.getD j 0 = x at *
        go_wp2_with (at_builtin; refine wpList_append_own _ rfl _ _ 24 rfl w.heap.size 3 i0 (.int .i64 0) 1 8 Tryd.underlying24 hi hz0 hz1 hz2 rfl (by decide) _ _ _ rfl (hown.alloc _) ⟨wr.heap.size, 0, none⟩ 1 1 [.int .i64 x] rfl rfl ?c1 ?c2 ?c3 ?c4 ?c5 ?_)
        case c1 => exact cell_one_new _ _ _
        case c2 => intro u hu; simp only [List.mem_singleton] at hu; subst hu; rfl
        case c3 => unfold maxLen; omega
        case c4 => omega
        case c5 => simp; omega
        intro v' w2 hown' hgrow' _
        have Ho : Hid (w2.ownsRow w.heap.size 3 1 v' (k + 1) (((turned l m).take (k + 1)).map (Value.int .i64))) := by
          show w2.ownsRow w.heap.size 3 1 v' (k + 1) (((turned l m).take (k + 1)).map (Value.int .i64))
          rw [HT.out]; simpa [List.map_take] using hown'
        have Hs : Hid (Since w w2) := RowKit.Below.grown (HS.out.alloc _) hgrow' (by simp; omega) (fun k hk => (hown.lt k hk).1)
        clear hown' hgrow' hown HS
        go_wp2
        go_roundw
        case rel => exact ⟨(j : Int) - 1, k + 1, by omega, by omega, rfl, Lib.hid (by have := HK.out; omega), Ho.out, Hs⟩
        case measure => simp [intOf]
      · have hjm : j - l.length < m.length := by have := HK.out; omega
        rcases HQ.out with e | ⟨b, off, rfl, hb, hc⟩
        · rw [e] at hjm; simp at hjm
        have hcj : wr.cell? ⟨b, off + (j - l.length), none⟩ = some (.int .i64 (m.getD (j - l.length) 0)) := by rw [HS.out.cell hb]; exact hc _ hjm
        have ht := turned_take_m HK.out hlt
        have HT := Lib.hid ht
        clear hc ht
        generalize m.getD (j - l.length) 0 = x at *
        go_wp2_with (at_builtin; refine wpList_append_own _ rfl _ _ 24 rfl w.heap.size 3 i0 (.int .i64 0) 1 8 Tryd.underlying24 hi hz0 hz1 hz2 rfl (by decide) _ _ _ rfl (hown.alloc _) ⟨wr.heap.size, 0, none⟩ 1 1 [.int .i64 x] rfl rfl ?c1 ?c2 ?c3 ?c4 ?c5 ?_)
        case c1 => exact cell_one_new _ _ _
        case c2 => intro u hu; simp only [List.mem_singleton] at hu; subst hu; rfl
        case c3 => unfold maxLen; omega
        case c4 => omega
        case c5 => simp; omega
        intro v' w2 hown' hgrow' _
        have Ho : Hid (w2.ownsRow w.heap.size 3 1 v' (k + 1) (((turned l m).take (k + 1)).map (Value.int .i64))) := by
          show w2.ownsRow w.heap.size 3 1 v' (k + 1) (((turned l m).take (k + 1)).map (Value.int .i64))
          rw [HT.out]; simpa [List.map_take] using hown'
        have Hs : Hid (Since w w2) := RowKit.Below.grown (HS.out.alloc _) hgrow' (by simp; omega) (fun k hk => (hown.lt k hk).1)
        clear hown' hgrow' hown HS
        go_wp2
        go_roundw
        case rel => exact ⟨(j : Int) - 1, k + 1, by omega, by omega, rfl, Lib.hid (by have := HK.out; omega), Ho.out, Hs⟩
        case measure => simp [intOf]
    · have e : j = -1 := by omega
      subst e
      have ek : k = l.length + m.length := by have := Hk.out; omega
      obtain ⟨pv, cv, rfl, hT⟩ := rd_of_made (zs := turned l m) (v := u6) (by rw [ek] at hown; rw [List.take_of_length_le (by rw [turned_length]; omega)] at hown; exact hown) (turned_length l m)
      have HR := Lib.hid hT
      have HP' := Lib.hid (rd_below HP.out HS.out)
      have HQ' := Lib.hid (rd_below HQ.out HS.out)
      have hlen : (turned l m).length ≤ 1000 := by rw [turned_length]; omega
      have hall := turned_all l m
      have hts := turned_sum l m
      have Hcl := Lib.hid (sum_any l p c1 wr HP'.out (by omega))
      have Hcm := Lib.hid (sum_any m q c2 wr HQ'.out (by omega))
      have Hct := Lib.hid (sum_any (turned l m) pv cv wr HR.out hlen)
      clear hT hown ek Hk HP HQ
      generalize (turned l m).length = N at *
      go_wp2_with fail
      refine Hcl.out.mono ?_; rintro e w' ⟨rfl, rfl⟩
      go_wp2_with fail
      refine Hcm.out.mono ?_; rintro e w' ⟨rfl, rfl⟩
      go_wp2_with fail
      refine Hct.out.mono ?_; rintro e w' ⟨rfl, rfl⟩
      cases hal : l.all valid
      · rw [sumS_bad hal, sumS_bad (l := turned l m) (by rw [hall, hal]; rfl)]
        clear hall hts hal
        generalize (sumS m).1 = x1
        generalize (sumS m).2 = x2
        go_wp2
        go_ret
        exact ⟨rfl, HS.out⟩
      · cases ham : m.all valid
        · rw [sumS_bad ham, sumS_bad (l := turned l m) (by rw [hall, hal, ham]; rfl)]
          have h1 := sumS_err hal
          clear hall hts hal ham
          generalize (sumS l).1 = x1 at *
          generalize (sumS l).2 = x2 at *
          have h2 : (x2 == 1) = false := by rcases h1 with ⟨e, _⟩ | ⟨e, _⟩ <;> rw [e] <;> decide
          clear h1
          go_wp2
          go_ret
          exact ⟨rfl, HS.out⟩
        · have h1 := sumS_err hal
          have h2 := sumS_err ham
          have h3 := sumS_err (l := turned l m) (by rw [hall, hal, ham]; rfl)
          rw [hts] at h3
          have h4 : sumS [l.sum, m.sum] = if valid l.sum && valid m.sum then (if valid (l.sum + m.sum) then (l.sum + m.sum, 0) else (0, 2)) else (0, 1) := by
            unfold sumS; simp
          clear hall hts hal ham
          generalize (sumS l).1 = a at *
          generalize (sumS l).2 = e at *
          generalize (sumS m).1 = b at *
          generalize (sumS m).2 = f at *
          generalize (sumS (turned l m)).1 = c at *
          generalize (sumS (turned l m)).2 = g at *
          have h5 : (g == 1) = false := by rcases h3 with ⟨k, _⟩ | ⟨k, _⟩ <;> rw [k] <;> decide
          have h6 : (g != 1) = true := by rcases h3 with ⟨k, _⟩ | ⟨k, _⟩ <;> rw [k] <;> decide
          rcases h1 with ⟨k1, k2, k3⟩ | ⟨k1, k2, k3⟩
          · rcases h2 with ⟨j1, j2, j3⟩ | ⟨j1, j2, j3⟩
            · rw [k1, j1]
              rw [← k2, ← j2] at h3 h4
              have va : valid a = true := by rw [k2]; exact k3
              have vb : valid b = true := by rw [j2]; exact j3
              clear k1 j1 k2 j2 k3 j3
              rw [va, vb] at h4
              obtain ⟨a1, a2⟩ := valid_iff.1 va
              obtain ⟨b1, b2⟩ := valid_iff.1 vb
              clear va vb
              rcases h3 with ⟨g1, g2, g3⟩ | ⟨g1, g2, g3⟩
              · rw [g3] at h4
                have h4' : sumS [a, b] = (a + b, 0) := h4
                have Hs := Lib.hid (sum_any [a, b] _ 2 _ (rd_two wr a b 3) (by simp))
                rw [h4'] at Hs
                rw [g1, g2]
                clear h4 h4' g1 g2 h5 h6
                have Hg := Lib.hid g3; clear g3
                go_wp2_with fail
                refine Hs.out.mono ?_; rintro e' w' ⟨rfl, rfl⟩
                go_wp2_with fail
                refine (valid_yes _ _ Hg.out).mono ?_; rintro e' w' ⟨rfl, rfl⟩
                go_wp2
                go_ret
                exact ⟨rfl, HS.out.alloc _⟩
              · rw [g3] at h4
                have h4' : sumS [a, b] = (0, 2) := h4
                have Hs := Lib.hid (sum_any [a, b] _ 2 _ (rd_two wr a b 3) (by simp))
                rw [h4'] at Hs
                rw [g1, g2]
                clear h4 h4' g1 g2 h5 h6
                have Hg := Lib.hid g3; clear g3
                go_wp2_with fail
                refine Hs.out.mono ?_; rintro e' w' ⟨rfl, rfl⟩
                go_wp2_with fail
                refine (valid_no _ _ Hg.out).mono ?_; rintro e' w' ⟨rfl, rfl⟩
                go_wp2
                go_ret
                exact ⟨rfl, HS.out.alloc _⟩
            · rw [k1, j1]
              clear h3 h4 k1 k2 k3 j1 j2 j3
              go_wp2
              go_ret
              exact ⟨rfl, HS.out⟩
          · have hf : (f == 1) = false := by rcases h2 with ⟨k, _⟩ | ⟨k, _⟩ <;> rw [k] <;> decide
            rw [k1]
            clear h2 h3 h4 k1 k2 k3
            go_wp2
            go_ret
            exact ⟨rfl, HS.out⟩

theorem sums_walk (p : Option Addr) (n1 c1 : Nat) (z1 : List Int) (q : Option Addr) (n2 c2 : Nat) (z2 : List Int) (w : World) (h1 : IsRow .i64 w p n1 c1 z1) (h2 : IsRow .i64 w q n2 c2 z2) (hE : Env w) :
    Calls Tryd.prog 4 #[.slice p n1 c1, .slice q n2 c2] w fun e w' => e = .returned (.bool true) ∧ RowKit.Below w.heap.size w w' := by
  obtain ⟨hm1, l, rfl, hp, _⟩ := rd_of_row h1
  obtain ⟨hm2, m, rfl, hq, _⟩ := rd_of_row h2
  unfold maxLen at hm1 hm2
  by_cases hl : l.length ≤ 100
  · by_cases hm : m.length ≤ 100
    · exact sums_short l m p q c1 c2 w hl hm hp hq hE
    · have hm' : 100 < (m.length : Int) := by omega
      have hl' : ¬ 100 < (l.length : Int) := by omega
      clear hp hq h1 h2 hm hl
      have HE := Lib.hid hE; clear hE
      have HS : Hid (Since w w) := RowKit.Below.refl _ _
      go_enter Tryd.func4, Tryd.ntmps4
      go_wp2_with fail
      refine (head_any _ HE.out).mono ?_; rintro e w1 ⟨rfl, hb1⟩
      have HS := Lib.hid (HS.out.call hb1)
      clear hb1
      go_wp2
      go_ret
      exact ⟨rfl, HS.out⟩
  · have hl' : 100 < (l.length : Int) := by omega
    clear hp hq h1 h2 hl
    have HE := Lib.hid hE; clear hE
    have HS : Hid (Since w w) := RowKit.Below.refl _ _
    go_enter Tryd.func4, Tryd.ntmps4
    go_wp2_with fail
    refine (head_any _ HE.out).mono ?_; rintro e w1 ⟨rfl, hb1⟩
    have HS := Lib.hid (HS.out.call hb1)
    clear hb1
    go_wp2
    go_ret
    exact ⟨rfl, HS.out⟩
end Go.Proofs.YtdjilieadhnhcaaDoor
