/-
  The law RuleLeaves: its walk.
-/
import Derived.Test.YtllhonjhjhajjaaDoorLawHelp7
import Derived.Test.YtllhonjhjhajjaaDoorRefSame7
import Derived.Test.YtllhonjhjhajjaaDoorMathLeaves
import Derived.Test.YtllhonjhjhajjaaDoorRound
namespace Go.Proofs.YtllhonjhjhajjaaDoor
open Go.RowKit Go.Sort Go.Shelf Foyer.Rule Foyer.Round

/-! ### Parts of a list appended to one that the call made -/
theorem all2_append {α β : Type} {R : β → α → Prop} {bs cs : List β} {xs ys : List α} (h : All2 R bs xs) (h' : All2 R cs ys) : All2 R (bs ++ cs) (xs ++ ys) := by
  induction h with
  | nil => exact h'
  | cons h _ ih => exact .cons h ih
theorem all2_take {α β : Type} {R : β → α → Prop} {bs : List β} {xs : List α} (h : All2 R bs xs) : ∀ k, All2 R (bs.take k) (xs.take k) := by
  induction h with
  | nil => intro k; cases k <;> exact .nil
  | cons h _ ih => intro k; cases k with | zero => exact .nil | succ k => exact .cons h (ih k)
theorem all2_drop {α β : Type} {R : β → α → Prop} {bs : List β} {xs : List α} (h : All2 R bs xs) : ∀ k, All2 R (bs.drop k) (xs.drop k) := by
  induction h with
  | nil => intro k; cases k <;> exact .nil
  | cons h hs ih => intro k; cases k with | zero => exact .cons h hs | succ k => exact ih k
theorem Con.cells_at {w : World} {B m n cap g : Nat} {T : TypeId} {css : List (List Value)} (h : Con w B T m (.slice (some ⟨g, 0, none⟩) n cap) css) : ∀ j u, css.flatten[j]? = some u → w.cell? ⟨g, j, none⟩ = some u := by
  intro j u hj
  rcases h.own.2 with ⟨h1, _⟩ | ⟨g', cap', cur, h1, h2, h3, h4, h5, h6, h7⟩
  · cases h1
  · injection h1 with e1 e2 e3
    cases e1
    rw [← h7, List.getElem?_take] at hj
    split at hj
    · unfold World.cell?
      rw [show w.heap[(⟨g, j, none⟩ : Addr).block]? = _ from h3]
      simpa using hj
    · cases hj
theorem flat_take {css : List (List Value)} {k j : Nat} {u : Value} (h : (css.take k).flatten[j]? = some u) : css.flatten[j]? = some u := by
  have hlt : j < (css.take k).flatten.length := (List.getElem?_eq_some_iff.1 h).1
  rw [← List.take_append_drop k css, List.flatten_append, List.getElem?_append_left hlt]
  exact h
theorem flat_drop {css : List (List Value)} {k j m : Nat} {u : Value} (hm : ∀ cs ∈ css, cs.length = m) (hk : k ≤ css.length) (h : (css.drop k).flatten[j]? = some u) : css.flatten[k * m + j]? = some u := by
  have hl : (css.take k).flatten.length = k * m := by
    rw [flatten_length (m := m) (fun cs hcs => hm cs (List.mem_of_mem_take hcs)), List.length_take, Nat.min_eq_left hk]
  rw [← List.take_append_drop k css, List.flatten_append, List.getElem?_append_right (by omega), hl, Nat.add_sub_cancel_left]
  exact h
theorem con_appends {w : World} {B T t m bytes : Nat} {i0 : TypeInfo} {z : Value} (ht : Tryd.prog.underlying t = some (.slice T)) (hi : Tryd.prog.info? T = some i0) (hz0 : i0.zero = some z) (hz1 : i0.size = m) (hz2 : i0.bytes = bytes) (hzs : z.cells.size = m) (hm : 0 < m) (hby : bytes ≤ 200)
    {o : Oper} {a : Act} {K : Act → World → Prop} {Q : Exit → Act → World → Prop} (s x : Operand)
    (hop : o.op = Op.call { callee := Callee.builtin Builtin.append, args := #[s, x], argTypes := #[t, t] })
    (v : Value) (css dss : List (List Value)) (k : Nat) (hk : dss.length = k) (hs : a.eval s = v) (hown : Con w B T m v css) (b off c : Nat) (hx : a.eval x = .slice (some ⟨b, off, none⟩) k c)
    (hc : ∀ j u, dss.flatten[j]? = some u → w.cell? ⟨b, off + j, none⟩ = some u) (hdl : ∀ d ∈ dss, d.length = m) (h1 : ∀ d ∈ dss, ∀ u ∈ d, u.oneCell' = true) (hlen : css.length + k ≤ 1000000) (hB : B ≤ w.heap.size)
    (hK : ∀ pa pc w', Con w' B T m (.slice pa (css.length + k) pc) (css ++ dss) → w.grownBy w' v.ownBlock → ((Value.slice pa (css.length + k) pc).ownBlock = v.ownBlock ∨ (Value.slice pa (css.length + k) pc).ownBlock = some w.heap.size) → K (a.put o.dst (.slice pa (css.length + k) pc)) w') : Oper.wp Tryd.prog o a w K Q := by
  subst hk
  have hr := run_append_own_at (P := Tryd.prog) w B t o.type T i0 z m bytes ht hi hz0 hz1 hz2 hzs hm v css.length _ hown.own ⟨b, off, none⟩ dss.length c dss.flatten (flatten_length hdl) (fun j u hu => by rw [add_plain]; exact hc j u hu) (fun u hu => by
    obtain ⟨d, hd, hud⟩ := List.mem_flatten.1 hu
    exact h1 d hd u hud) (by unfold maxLen; omega) (by
    have : (css.length + dss.length) * bytes ≤ 1000000 * 200 := Nat.mul_le_mul hlen hby
    omega) hB
  obtain ⟨v', w', hr, h2, h3, h4, h5⟩ := hr
  unfold Oper.wp execOp
  simp only [hop, resolve, invoke, builtin, Sem.run_bind, Sem.run_pure, Result.andThen_ok, List.map_toArray, List.map_cons, List.map_nil, hs, hx, hr]
  have hcon : Con w' B T m v' (css ++ dss) := ⟨own_cast h2 (by simp) (by simp), fun cs hcs => (List.mem_append.1 hcs).elim (hown.each cs) (hdl cs)⟩
  obtain ⟨pa, pc, rfl⟩ : ∃ pa pc, v' = .slice pa (css.length + dss.length) pc := by
    rcases h2.2 with ⟨rfl, hn⟩ | ⟨g, cap, cur, rfl, _⟩
    · exact ⟨none, 0, by rw [hn]⟩
    · exact ⟨_, _, rfl⟩
  exact hK pa pc w' hcon h3 h5
theorem Below.own {B : Nat} {a b c : World} {v : Value} (h : Below B a b) (hg : b.grownBy c v.ownBlock) (hv : ∀ k, v.ownBlock = some k → B ≤ k) (hB : B ≤ b.heap.size) : Below B a c := h.grown hg hB (fun q hq => hv q hq)
theorem item_info : (Tryd.prog.info? 42).map (fun i => (i.zero, i.size, i.bytes)) = some (some (.agg #[.int .i64 0, .string ⟨#[]⟩, .slice none 0 0, .int .i64 0, .int .i64 0, .int .i64 0, .int .i64 0, .int .i64 0, .int .i64 0]), itemK.size, 96) := by kernel_rfl

set_option maxRecDepth 100000 in
set_option maxHeartbeats 2000000 in
theorem leaves_idle (hh : HeadC) (a : ByteArray) (r : Int) (w : World) (h : 4000 < a.size ∨ (parseAll a.data.toList).2.1 ≠ 0 ∨ (parseAll a.data.toList).1 = []) :
    Calls Tryd.prog 8 #[.string a, .int .u8 r] w fun e w' => e = .returned (.bool true) ∧ Below w.heap.size w w' := by
  have HS : Hid (Since w w) := Below.refl _ _
  have HH := Lib.hid hh
  by_cases h1 : 4000 < a.size
  · have hd : decide ((4000 : Int) < (a.size : Int)) = true := by simp; omega
    clear h hh
    go_enter Tryd.func8, Tryd.ntmps8
    go_wp2_with fail
    refine (HH.out _).mono ?_; rintro x w1 ⟨rfl, hb1⟩
    have HS1 := Lib.hid (HS.out.call hb1); clear hb1
    go_wp2
    go_ret
    exact ⟨rfl, HS1.out⟩
  have hE := h.resolve_left h1
  obtain ⟨xs, E, O, hp⟩ : ∃ x E O, parseAll a.data.toList = (x, E, O) := ⟨_, _, _, rfl⟩
  rw [hp] at hE
  have hxs : xs = [] := by
    rcases hE with hE | hE
    · exact none_of hp hE
    · exact hE
  subst hxs
  have hd : decide ((4000 : Int) < (a.size : Int)) = false := by simp; omega
  have HP := Lib.hid (fun w => rule_s a (by omega) [] E O hp w)
  clear h hh h1 hp hE
  go_enter Tryd.func8, Tryd.ntmps8
  go_wp2_with fail
  refine (HH.out _).mono ?_; rintro x w1 ⟨rfl, hb1⟩
  have HS1 := Lib.hid (HS.out.call hb1); clear hb1
  go_wp2_with fail
  refine (HP.out _).mono ?_; rintro e w2 ⟨sa, sc, rfl, _, hb2⟩
  have hB2 := hb2.alloc hb2.size (.cells #[.slice sa 0 sc] 25)
  have V2 := Lib.hid (Blk.new w2 25 [.slice sa 0 sc])
  have HS2 := Lib.hid (HS1.out.call hB2)
  clear hb2 hB2
  go_upto_region 5 with fail
  have V2 : Hid (Blk (w2.alloc (.cells #[.slice sa 0 sc] 25)) w2.heap.size 25 [.slice sa 0 sc]) := V2
  generalize w2.alloc (.cells #[.slice sa 0 sc] 25) = X2 at *
  generalize w2.heap.size = v2 at *
  have c3 := V2.out.cell (i := 0) rfl
  by_cases hE : E = 0
  · have e1 : (((E : Nat) : Int) != 0) = false := by simp [hE]
    clear hE
    go_wp2
    go_ret
    exact ⟨rfl, HS2.out⟩
  · have e1 : (((E : Nat) : Int) != 0) = true := by simp [hE]
    clear hE
    go_wp2
    go_ret
    exact ⟨rfl, HS2.out⟩
set_option linter.unusedSimpArgs false in
set_option maxRecDepth 100000 in
set_option maxHeartbeats 8000000 in
theorem leaves_main (hh : HeadC) (a : ByteArray) (r : Int) (hr0 : 0 ≤ r) (hr1 : r < 256) (w : World) (ha : a.size ≤ 4000) (xs : List ItemP) (O : Int) (hp : parseAll a.data.toList = (xs, 0, O)) (hne : xs ≠ []) :
    Calls Tryd.prog 8 #[.string a, .int .u8 r] w fun e w' => e = .returned (.bool true) ∧ Below w.heap.size w w' := by
  obtain ⟨n, hn⟩ : ∃ n, xs.length = n := ⟨_, rfl⟩
  have hn0 : 0 < n := by rw [← hn]; exact List.length_pos_iff.2 hne
  have hn200 : n ≤ 200 := by
    obtain ⟨ts, _, _, _, h4⟩ := parse_inv hp
    rw [← hn]; exact rest_length h4
  obtain ⟨i, hi⟩ : ∃ i : Nat, r % (n : Int) = i := ⟨(r % (n : Int)).toNat, by rw [Int.toNat_of_nonneg (Int.emod_nonneg _ (by omega))]⟩
  have hin : i < n := by have := Int.emod_lt_of_pos r (show (0 : Int) < n by omega); omega
  have hti : Int.tmod r (n : Int) = i := by rw [Int.tmod_eq_emod_of_nonneg hr0]; exact hi
  obtain ⟨x, hx⟩ : ∃ x, xs[i]? = some x := ⟨_, List.getElem?_eq_getElem (by omega)⟩
  obtain ⟨en, hen⟩ : ∃ en, (i + 1 = xs.length ∧ en = a.data.toList.length) ∨ ∃ y, xs[i + 1]? = some y ∧ en = y.pos := by
    by_cases h : i + 1 = xs.length
    · exact ⟨_, Or.inl ⟨h, rfl⟩⟩
    · exact ⟨_, Or.inr ⟨xs[i + 1]'(by omega), List.getElem?_eq_getElem (by omega), rfl⟩⟩
  have hsa := size_toList a
  obtain ⟨hpe, hel, bs, hq, hsame⟩ := leaves (by omega) hp hx hen
  obtain ⟨xp, hxp⟩ : ∃ xp, x.pos = xp := ⟨_, rfl⟩
  rw [hxp] at hpe hq
  rw [hsa] at hel
  obtain ⟨l1, hx1, hl1⟩ := cut_list a xp
  obtain ⟨l2, hx2, hl2⟩ := part_list a en a.size
  have hl2' : l2 = a.data.toList.drop en := by rw [hl2, List.take_of_length_le (by omega)]
  rw [← hl1, ← hl2'] at hq
  have hll1 : l1.length ≤ 4000 := by rw [hl1, List.length_take]; omega
  have hll2 : l2.length ≤ 4000 := by rw [hl2', List.length_drop]; omega
  have hs1 := str_append l1 [10]
  have hs2 := str_append (l1 ++ [10]) l2
  obtain ⟨M, hM⟩ : ∃ M, (l1 ++ [10]) ++ l2 = M := ⟨_, rfl⟩
  have hMl : M.length ≤ 8001 := by rw [← hM]; simp only [List.length_append, List.length_cons, List.length_nil]; omega
  rw [hM] at hq hs2
  have HS : Hid (Since w w) := Below.refl _ _
  have HH := Lib.hid hh
  have hd : decide ((4000 : Int) < (a.size : Int)) = false := by simp; omega
  have HP := Lib.hid (fun w => rule_s a (by omega) xs 0 O hp w)
  have HPM := Lib.hid (fun w => rule_s ⟨M.toArray⟩ (by rw [size_of_list]; omega) bs 0 0 hq w)
  rw [hn] at HP
  have hn00 : (((n : Nat) : Int) == 0) = false := by simp; omega
  have HX := Lib.hid hx; have HEN := Lib.hid hen; have HSAME := Lib.hid hsame; have HN := Lib.hid hn; have HXP := Lib.hid hxp; have HM := Lib.hid hM; have HSA := Lib.hid hsa
  clear hp hx hen hq hsame hh hl1 hl2 hl2' hn hne hxp hM hsa hi
  go_enter Tryd.func8, Tryd.ntmps8
  go_wp2_with fail
  refine (HH.out _).mono ?_; rintro x w1 ⟨rfl, hb1⟩
  have HS1 := Lib.hid (HS.out.call hb1); clear hb1
  go_wp2_with fail
  refine (HP.out _).mono ?_; rintro e w2 ⟨sa, sc, rfl, hv2, hb2⟩
  have hn9 := bound6 hv2
  rw [HN.out] at hn9
  have hB2 := hb2.alloc hb2.size (.cells #[.slice sa n sc] 25)
  have V2 := Lib.hid (Blk.new w2 25 [.slice sa n sc])
  have L2 := Lib.hid (hv2.late ((Below.refl w2.heap.size w2).alloc (Nat.le_refl _) (.cells #[.slice sa n sc] 25)))
  have HS2 := Lib.hid (HS1.out.call hB2)
  clear hb2 hB2 hv2
  go_upto_region 5 with fail
  have V2 : Hid (Blk (w2.alloc (.cells #[.slice sa n sc] 25)) w2.heap.size 25 [.slice sa n sc]) := V2
  generalize w2.alloc (.cells #[.slice sa n sc] 25) = X2 at *
  generalize w2.heap.size = v2 at *
  have y0 := V2.out.cell (i := 0) rfl
  obtain ⟨g, cp, cs, he, hcap9, hcm9, _, hg, ⟨vw, rfl, _⟩, hcell⟩ := L2.out.at HX.out
  rw [HN.out] at he hcap9
  injection he with he1 he2 he3
  subst he1 he3
  have hix : (0 : Int) ≤ i ∧ (i : Int) < n := by omega
  have dp : X2.cell? ⟨g, i * 9 + 8, none⟩ = some (.int .i64 (xp : Nat)) := by
    have h1 := hcell 8 _ rfl
    rw [show itemK.size = 9 from rfl, HXP.out] at h1
    exact h1
  clear hcell
  go_upto_if 49 with fail
  go_cut [10] from 49 (fun v wx => v = .int .i64 (en : Nat) ∧ wx = X2)
  case first =>
    by_cases hi2 : i + 1 < n
    · have hd1 : decide ((i : Int) + 1 < (n : Int)) = true := by simp; omega
      have hix2 : (0 : Int) ≤ (i : Int) + 1 ∧ (i : Int) + 1 < n := by omega
      have dq : X2.cell? ⟨g, (i + 1) * 9 + 8, none⟩ = some (.int .i64 (en : Nat)) := by
        rcases HEN.out with ⟨h, _⟩ | ⟨y, hy, rfl⟩
        · have := HN.out; omega
        · obtain ⟨g', cp', cs', he', _, _, _, _, ⟨vw', rfl, _⟩, hcell'⟩ := L2.out.at hy
          injection he' with he1' he2' he3'
          cases he1'
          have h1 := hcell' 8 _ rfl
          rw [show itemK.size = 9 from rfl] at h1
          exact h1
      go_wp2
      go_meet
      exact ⟨rfl, rfl⟩
    · have hd1 : decide ((i : Int) + 1 < (n : Int)) = false := by simp; omega
      obtain rfl : en = a.size := by
        rcases HEN.out with ⟨_, h⟩ | ⟨y, hy, _⟩
        · rw [h]; exact HSA.out
        · have h1 := (List.getElem?_eq_some_iff.1 hy).1
          have := HN.out
          omega
      go_wp2
      go_meet
      exact ⟨rfl, rfl⟩
  case rest =>
    obtain ⟨rfl, rfl⟩ := hcut
    clear hti
    go_upto_region 11 with fail
    have hse : (en : Int) ≤ (a.size : Int) := by omega
    have hsp : (xp : Int) ≤ (a.size : Int) := by omega
    go_quiet (fail)
    have hbr := below_drewN (Below.refl wc.heap.size wc) nq
    have V3 := Lib.hid (V2.out.below hbr); have L3 := Lib.hid (L2.out.below hbr); have HS3 := Lib.hid (HS2.out.call hbr)
    clear V2 L2 HS2 hbr dp y0 hx1 hx2 hs1 hs2
    have hgd := hg
    generalize wc.drewN nq = X3 at *
    go_wp2_with fail
    refine (HPM.out _).mono ?_; rintro e w4 ⟨sa4, sc4, rfl, hv4, hb4⟩
    have hB4 := hb4.alloc hb4.size (.cells #[.slice sa4 bs.length sc4] 25)
    have V4 := Lib.hid (V3.out.below hB4); have L4 := Lib.hid (L3.out.below hB4); have HS4 := Lib.hid (HS3.out.call hB4)
    have Z4 := Lib.hid (Blk.new w4 25 [.slice sa4 bs.length sc4])
    have M4 := Lib.hid (hv4.late ((Below.refl w4.heap.size w4).alloc (Nat.le_refl _) (.cells #[.slice sa4 bs.length sc4] 25)))
    clear hb4 hB4 hv4 V3 L3 HS3
    go_upto_region 13 with fail
    have Z4 : Hid (Blk (w4.alloc (.cells #[.slice sa4 bs.length sc4] 25)) w4.heap.size 25 [.slice sa4 bs.length sc4]) := Z4
    generalize w4.alloc (.cells #[.slice sa4 bs.length sc4] 25) = X4 at *
    generalize w4.heap.size = z4 at *
    obtain ⟨css, hcon, _, hall⟩ := L4.out
    have hcl : css.length = n := by rw [All2.length hall]; exact HN.out
    obtain ⟨od, hod1, hod2⟩ : ∃ od : Nat, (sc = i + 1 → od = 0) ∧ (sc ≠ i + 1 → od = (i + 1) * 9) := ⟨if sc = i + 1 then 0 else (i + 1) * 9, fun h => if_pos h, fun h => if_neg h⟩
    have hfc := hcon.cells_at
    have hft : ∀ j u, (css.take i).flatten[j]? = some u → X4.cell? ⟨g, 0 + j, none⟩ = some u := fun j u hj => by rw [Nat.zero_add]; exact hfc j u (flat_take hj)
    have hfd : ∀ j u, (css.drop (i + 1)).flatten[j]? = some u → X4.cell? ⟨g, od + j, none⟩ = some u := fun j u hj => by
      by_cases hsc : sc = i + 1
      · rw [List.drop_eq_nil_of_le (by omega)] at hj
        simp at hj
      · rw [hod2 hsc]
        exact hfc _ u (flat_drop (fun cs hcs => hcon.each cs hcs) (by omega) hj)
    have hdl1 : ∀ d ∈ css.take i, d.length = itemK.size := fun d hd => hcon.each d (List.mem_of_mem_take hd)
    have hdl2 : ∀ d ∈ css.drop (i + 1), d.length = itemK.size := fun d hd => hcon.each d (List.mem_of_mem_drop hd)
    have hone : ∀ d ∈ css, ∀ u ∈ d, u.oneCell' = true := fun d hd => by
      obtain ⟨j, hj⟩ := List.getElem?_of_mem hd
      have hlt : j < xs.length := by have := HN.out; have h1 := (List.getElem?_eq_some_iff.1 hj).1; omega
      obtain ⟨c, hc, hk⟩ := All2.at hall (List.getElem?_eq_getElem hlt)
      rw [hj] at hc
      cases hc
      exact itemK.one hk
    have hgl : g < X4.heap.size := by
      obtain ⟨g', cap', c', he', _, _, _, hg', _⟩ := L4.out.at HX.out
      injection he' with he1' he2' he3'
      cases he1'
      exact hg'
    obtain ⟨i0, hi0, hz0, hz1, hz2⟩ := info_parts' item_info
    have HFT := Lib.hid hft; have HFD := Lib.hid hfd; have HD1 := Lib.hid hdl1; have HD2 := Lib.hid hdl2; have HO1 : Hid (∀ d ∈ css.take i, ∀ u ∈ d, u.oneCell' = true) := Lib.hid (fun d hd => hone d (List.mem_of_mem_take hd)); have HO2 : Hid (∀ d ∈ css.drop (i + 1), ∀ u ∈ d, u.oneCell' = true) := Lib.hid (fun d hd => hone d (List.mem_of_mem_drop hd))
    have HI := Lib.hid hi0; have HZ0 := Lib.hid hz0; have HZ1 := Lib.hid hz1; have HZ2 := Lib.hid hz2; have HALL := Lib.hid hall; have HCL := Lib.hid hcl; have HOD1 := Lib.hid hod1; have HOD2 := Lib.hid hod2
    have hlt1 : (css.take i).length = i := by rw [List.length_take]; omega
    have hlt2 : (css.drop (i + 1)).length = n - (i + 1) := by rw [List.length_drop]; omega
    have HL1 := Lib.hid hlt1; have HL2 := Lib.hid hlt2
    clear hcon hall hcl hfc hft hfd hdl1 hdl2 hone hi0 hz0 hz1 hz2 hod1 hod2 hlt1 hlt2
    go_cut [15] from 76 (fun v wx => ∃ (zb : Nat) (pv : Option Addr) (k pc : Nat), v = .pointer (some ⟨zb, 0, none⟩) ∧ Hid (Blk wx zb 25 [.slice pv k pc]) ∧ Hid (IsList itemK wx (fun _ => True) 42 (.slice pv k pc) (xs.take i ++ xs.drop (i + 1))) ∧ Hid (Below X4.heap.size X4 wx))
    case first =>
      rename_i J KM hRJ hMK
      refine wp_region_any (by kernel_rfl) ?_
      refine any_of_held (S := fun W => Below X4.heap.size X4 W) (N := []) _ _ _ _ ?_
      have hS0 : Below X4.heap.size X4 X4.drew := (Below.refl _ _).drew
      change held _ _ _ _ _ _ _ _ _ X4.drew
      generalize X4.drew = wd at *
      refine held_take [] (i := 1) (v := .pointer (some ⟨v2, 0, none⟩)) rfl (by kernel_rfl) (fun _ _ _ h => h) (Or.inl ⟨by rfl, fun w' hS => by go_simp⟩) hS0 ?_
      try simp only [Act.put, List.setIfInBounds_toArray, List.set_cons_zero, List.set_cons_succ]
      refine held_take [] (i := 2) (v := .slice (some ⟨g, 0, none⟩) n sc) rfl (by kernel_rfl) (fun _ _ _ h => h) (Or.inl ⟨by rfl, fun w' hS => by have := (hS.cell (p := ⟨v2, 0, none⟩) V4.out.lt).trans (V4.out.cell (i := 0) rfl); go_simp⟩) hS0 ?_
      try simp only [Act.put, List.setIfInBounds_toArray, List.set_cons_zero, List.set_cons_succ]
      refine held_take [] (i := 3) (v := .int .i64 (i : Nat)) rfl (by kernel_rfl) (fun _ _ _ h => h) (Or.inl ⟨by rfl, fun w' hS => by go_simp⟩) hS0 ?_
      try simp only [Act.put, List.setIfInBounds_toArray, List.set_cons_zero, List.set_cons_succ]
      refine held_take [] (i := 4) (v := .slice (some ⟨g, 0, none⟩) i sc) rfl (by kernel_rfl) (fun _ _ _ h => h) (Or.inl ⟨by rfl, fun w' hS => by have h9 : i ≤ sc := (by omega); go_simp⟩) hS0 ?_
      try simp only [Act.put, List.setIfInBounds_toArray, List.set_cons_zero, List.set_cons_succ]
      refine held_take [] (i := 6) (v := .pointer (some ⟨v2, 0, none⟩)) rfl (by kernel_rfl) (fun _ _ _ h => h) (Or.inl ⟨by rfl, fun w' hS => by go_simp⟩) hS0 ?_
      try simp only [Act.put, List.setIfInBounds_toArray, List.set_cons_zero, List.set_cons_succ]
      refine held_take [] (i := 7) (v := .slice (some ⟨g, 0, none⟩) n sc) rfl (by kernel_rfl) (fun _ _ _ h => h) (Or.inl ⟨by rfl, fun w' hS => by have := (hS.cell (p := ⟨v2, 0, none⟩) V4.out.lt).trans (V4.out.cell (i := 0) rfl); go_simp⟩) hS0 ?_
      try simp only [Act.put, List.setIfInBounds_toArray, List.set_cons_zero, List.set_cons_succ]
      refine held_take [] (i := 8) (v := .int .i64 (i : Nat)) rfl (by kernel_rfl) (fun _ _ _ h => h) (Or.inl ⟨by rfl, fun w' hS => by go_simp⟩) hS0 ?_
      try simp only [Act.put, List.setIfInBounds_toArray, List.set_cons_zero, List.set_cons_succ]
      refine held_take [] (i := 9) (v := .int .i64 ((i : Int) + 1)) rfl (by kernel_rfl) (fun _ _ _ h => h) (Or.inl ⟨by rfl, fun w' hS => by have hw9 : IntKind.i64.wrap ((i : Int) + 1) = (i : Int) + 1 := (by rw [IntKind.wrap_i64]; omega); go_simp⟩) hS0 ?_
      try simp only [Act.put, List.setIfInBounds_toArray, List.set_cons_zero, List.set_cons_succ]
      refine held_take [] (i := 10) (v := .slice (some ⟨g, od, none⟩) (n - (i + 1)) (sc - (i + 1))) rfl (by kernel_rfl) (fun _ _ _ h => h) (Or.inl ⟨by rfl, fun w' hS => by
        go_simp
        rw [if_pos ⟨by omega, by omega⟩]
        by_cases hsc : sc = i + 1
        · rw [if_pos hsc, HOD1.out hsc]
        · rw [if_neg hsc, HOD2.out hsc]⟩) hS0 ?_
      try simp only [Act.put, List.setIfInBounds_toArray, List.set_cons_zero, List.set_cons_succ]
      refine held_two (i := 0) (j := 13) rfl rfl (by kernel_rfl) (fun K hK => ?_) (fun K hK => ?_)
      · go_simp
        have HC1 := Lib.hid (show Con (wd.alloc (.cells #[] 42)) X4.heap.size 42 itemK.size (.slice (some ⟨wd.heap.size, 0, none⟩) 0 0) [] from ⟨World.ownsRow_made wd #[] 0 hS0.size (Nat.zero_le _) rfl, fun cs h => by cases h⟩)
        have hS1 := hS0.alloc hS0.size (.cells #[] 42)
        refine hK.out _ _ (fun _ => hS1) ?_
        clear hK K
        try simp only [Act.put, List.setIfInBounds_toArray, List.set_cons_zero, List.set_cons_succ]
        have hbs1 : wd.heap.size < (wd.alloc (.cells #[] 42)).heap.size := by simp
        generalize wd.alloc (.cells #[] 42) = W1 at *
        generalize wd.heap.size = b1 at *
        refine held_two (i := 5) (j := 13) rfl rfl (by kernel_rfl) (fun K hK => ?_) (fun K hK => ?_)
        · rw [if_pos (by kernel_rfl)]
          refine con_appends (t := 23) (T := 42) (m := itemK.size) (B := X4.heap.size) Tryd.underlying23 HI.out HZ0.out HZ1.out HZ2.out rfl (by decide) (by decide) (.tmp 76) (.tmp 80) rfl _ ([] : List (List Value)) (css.take i) i HL1.out rfl HC1.out g 0 sc rfl (fun j u hj => (hS1.cell hgl).trans (HFT.out j u hj)) HD1.out HO1.out (by show 0 + i ≤ 1000000; omega) hS1.size ?_
          intro pa2 pc2 W2 hcon2 hgr2 hat2
          generalize ([] : List (List Value)).length + i = k2 at *
          have hS2 := Below.own hS1 hgr2 (fun q hq => (own_lt HC1.out.own hq).1) hS1.size
          have HC2 := Lib.hid hcon2
          clear hcon2 hgr2 hat2
          refine hK.out _ _ (fun _ => hS2) ?_
          clear hK K
          try simp only [Act.put, List.setIfInBounds_toArray, List.set_cons_zero, List.set_cons_succ]
          refine held_two (i := 11) (j := 13) rfl rfl (by kernel_rfl) (fun K hK => ?_) (fun K hK => ?_)
          · rw [if_pos (by kernel_rfl)]
            refine con_appends (t := 23) (T := 42) (m := itemK.size) (B := X4.heap.size) Tryd.underlying23 HI.out HZ0.out HZ1.out HZ2.out rfl (by decide) (by decide) (.tmp 81) (.tmp 86) rfl _ ([] ++ (css.take i) : List (List Value)) (css.drop (i + 1)) (n - (i + 1)) HL2.out rfl HC2.out g od (sc - (i + 1)) rfl (fun j u hj => (hS2.cell hgl).trans (HFD.out j u hj)) HD2.out HO2.out (by rw [List.nil_append, HL1.out]; omega) hS2.size ?_
            intro pa3 pc3 W3 hcon3 hgr3 hat3
            generalize ([] ++ (css.take i) : List (List Value)).length + (n - (i + 1)) = k3 at *
            have hS3 := Below.own hS2 hgr3 (fun q hq => (own_lt HC2.out.own hq).1) hS2.size
            have HC3 := Lib.hid hcon3
            clear hcon3 hgr3 hat3
            refine hK.out _ _ (fun _ => hS3) ?_
            clear hK K
            try simp only [Act.put, List.setIfInBounds_toArray, List.set_cons_zero, List.set_cons_succ]
            refine held_take [] (i := 12) (v := .agg #[.slice pa3 k3 pc3]) rfl (by kernel_rfl) (fun _ _ _ h => h) (Or.inl ⟨by rfl, fun w' hS => by go_simp⟩) hS3 ?_
            try simp only [Act.put, List.setIfInBounds_toArray, List.set_cons_zero, List.set_cons_succ]
            refine held_one (i := 13) rfl (by kernel_rfl) (fun K hK => ?_)
            go_simp
            have HZ4 := Lib.hid (Blk.new W3 25 [.slice none 0 0])
            have hS4 := hS3.alloc hS3.size (.cells #[.slice none 0 0] 25)
            have hzb4 := hS3.size
            have HC4 := Lib.hid (HC3.out.of_block (w' := W3.alloc (.cells #[.slice none 0 0] 25)) (fun k hk => Below.heap_alloc _ _ _ (own_lt HC3.out.own hk).2))
            have HNE4 : Hid (∀ k, (Value.slice pa3 k3 pc3).ownBlock = some k → k ≠ W3.heap.size) := Lib.hid (fun k hk => by have := (own_lt HC3.out.own hk).2; omega)
            refine hK.out _ _ (fun _ => hS4) ?_
            clear hK K
            try simp only [Act.put, List.setIfInBounds_toArray, List.set_cons_zero, List.set_cons_succ]
            have hbs4 : W3.heap.size < (W3.alloc (.cells #[.slice none 0 0] 25)).heap.size := by simp
            generalize W3.alloc (.cells #[.slice none 0 0] 25) = W4 at *
            generalize W3.heap.size = b4 at *
            have hc5 := HZ4.out.cell (i := 0) rfl
            have hf5 := HZ4.out.free 0
            refine held_one (i := 14) rfl (by kernel_rfl) (fun K hK => ?_)
            go_simp
            have hz5 : X4.heap.size ≤ b4 := by omega
            have hS5 : Below X4.heap.size X4 (W4.setCell ⟨b4, 0, none⟩ (.slice pa3 k3 pc3)) := ((Kp.of_below (E := fun _ => False) hS4).setNew b4 0 hz5 (.slice pa3 k3 pc3)).below (Nat.le_refl _) (fun q hq => hq.elim)
            refine hK.out _ _ (fun _ => hS5) ?_
            clear hK K hc5 hf5
            try simp only [Act.put, List.setIfInBounds_toArray, List.set_cons_zero, List.set_cons_succ]
            refine held_done (by kernel_rfl) ?_ _
            refine hMK _ _ (Met.intro (hRJ _ _ ?_))
            (repeat apply Exists.intro)
            refine ⟨?rel5, rfl⟩
            have hcf := HC4.out.of_block (w' := W4.setCell ⟨b4, 0, none⟩ (.slice pa3 k3 pc3)) (fun q hq => Below.heap_setCell _ _ _ _ (HNE4.out q hq))
            refine ⟨b4, _, _, _, rfl, Lib.hid (HZ4.out.set 0 (.slice pa3 k3 pc3)), Lib.hid ⟨_, hcf.base (Nat.zero_le _), fun _ _ => trivial, ?_⟩, Lib.hid hS5⟩
            exact All2.imp (all2_append (all2_take HALL.out i) (all2_drop HALL.out (i + 1))) fun _ _ h => itemK.moved h (fun q _ hlt => hS5.block q hlt) (fun _ _ _ => trivial)
          · go_simp
            have HZ6 := Lib.hid (Blk.new W2 25 [.slice none 0 0])
            have hS6 := hS2.alloc hS2.size (.cells #[.slice none 0 0] 25)
            have hzb6 := hS2.size
            have HC6 := Lib.hid (HC2.out.of_block (w' := W2.alloc (.cells #[.slice none 0 0] 25)) (fun k hk => Below.heap_alloc _ _ _ (own_lt HC2.out.own hk).2))
            have HNE6 : Hid (∀ k, (Value.slice pa2 k2 pc2).ownBlock = some k → k ≠ W2.heap.size) := Lib.hid (fun k hk => by have := (own_lt HC2.out.own hk).2; omega)
            refine hK.out _ _ (fun _ => hS6) ?_
            clear hK K
            try simp only [Act.put, List.setIfInBounds_toArray, List.set_cons_zero, List.set_cons_succ]
            have hbs6 : W2.heap.size < (W2.alloc (.cells #[.slice none 0 0] 25)).heap.size := by simp
            generalize W2.alloc (.cells #[.slice none 0 0] 25) = W6 at *
            generalize W2.heap.size = b6 at *
            refine held_one (i := 11) rfl (by kernel_rfl) (fun K hK => ?_)
            rw [if_pos (by kernel_rfl)]
            refine con_appends (t := 23) (T := 42) (m := itemK.size) (B := X4.heap.size) Tryd.underlying23 HI.out HZ0.out HZ1.out HZ2.out rfl (by decide) (by decide) (.tmp 81) (.tmp 86) rfl _ ([] ++ (css.take i) : List (List Value)) (css.drop (i + 1)) (n - (i + 1)) HL2.out rfl HC6.out g od (sc - (i + 1)) rfl (fun j u hj => (hS6.cell hgl).trans (HFD.out j u hj)) HD2.out HO2.out (by rw [List.nil_append, HL1.out]; omega) hS6.size ?_
            intro pa7 pc7 W7 hcon7 hgr7 hat7
            generalize ([] ++ (css.take i) : List (List Value)).length + (n - (i + 1)) = k7 at *
            have hS7 := Below.own hS6 hgr7 (fun q hq => (own_lt HC6.out.own hq).1) hS6.size
            have HC7 := Lib.hid hcon7
            have HZ7 : Hid (Blk W7 b6 25 [.slice none 0 0]) := Lib.hid ((hgr7.block b6 HZ6.out.lt (fun h => HNE6.out b6 h.symm rfl)).trans HZ6.out)
            have HNE7 : Hid (∀ q, (Value.slice pa7 k7 pc7).ownBlock = some q → q ≠ b6) := Lib.hid (fun q hq => by
              rcases hat7 with h | h
              · exact HNE6.out q (h ▸ hq)
              · rw [h] at hq
                cases hq
                have := HZ6.out.lt
                omega)
            clear hcon7 hgr7 hat7
            refine hK.out _ _ (fun _ => hS7) ?_
            clear hK K
            try simp only [Act.put, List.setIfInBounds_toArray, List.set_cons_zero, List.set_cons_succ]
            refine held_take [] (i := 12) (v := .agg #[.slice pa7 k7 pc7]) rfl (by kernel_rfl) (fun _ _ _ h => h) (Or.inl ⟨by rfl, fun w' hS => by go_simp⟩) hS7 ?_
            try simp only [Act.put, List.setIfInBounds_toArray, List.set_cons_zero, List.set_cons_succ]
            have hc8 := HZ7.out.cell (i := 0) rfl
            have hf8 := HZ7.out.free 0
            refine held_one (i := 14) rfl (by kernel_rfl) (fun K hK => ?_)
            go_simp
            have hz8 : X4.heap.size ≤ b6 := by omega
            have hS8 : Below X4.heap.size X4 (W7.setCell ⟨b6, 0, none⟩ (.slice pa7 k7 pc7)) := ((Kp.of_below (E := fun _ => False) hS7).setNew b6 0 hz8 (.slice pa7 k7 pc7)).below (Nat.le_refl _) (fun q hq => hq.elim)
            refine hK.out _ _ (fun _ => hS8) ?_
            clear hK K hc8 hf8
            try simp only [Act.put, List.setIfInBounds_toArray, List.set_cons_zero, List.set_cons_succ]
            refine held_done (by kernel_rfl) ?_ _
            refine hMK _ _ (Met.intro (hRJ _ _ ?_))
            (repeat apply Exists.intro)
            refine ⟨?rel8, rfl⟩
            have hcf := HC7.out.of_block (w' := W7.setCell ⟨b6, 0, none⟩ (.slice pa7 k7 pc7)) (fun q hq => Below.heap_setCell _ _ _ _ (HNE7.out q hq))
            refine ⟨b6, _, _, _, rfl, Lib.hid (HZ7.out.set 0 (.slice pa7 k7 pc7)), Lib.hid ⟨_, hcf.base (Nat.zero_le _), fun _ _ => trivial, ?_⟩, Lib.hid hS8⟩
            exact All2.imp (all2_append (all2_take HALL.out i) (all2_drop HALL.out (i + 1))) fun _ _ h => itemK.moved h (fun q _ hlt => hS8.block q hlt) (fun _ _ _ => trivial)
        · go_simp
          have HZ9 := Lib.hid (Blk.new W1 25 [.slice none 0 0])
          have hS9 := hS1.alloc hS1.size (.cells #[.slice none 0 0] 25)
          have hzb9 := hS1.size
          have HC9 := Lib.hid (HC1.out.of_block (w' := W1.alloc (.cells #[.slice none 0 0] 25)) (fun k hk => Below.heap_alloc _ _ _ (own_lt HC1.out.own hk).2))
          have HNE9 : Hid (∀ k, (Value.slice (some ⟨b1, 0, none⟩) 0 0).ownBlock = some k → k ≠ W1.heap.size) := Lib.hid (fun k hk => by have := (own_lt HC1.out.own hk).2; omega)
          refine hK.out _ _ (fun _ => hS9) ?_
          clear hK K
          try simp only [Act.put, List.setIfInBounds_toArray, List.set_cons_zero, List.set_cons_succ]
          have hbs9 : W1.heap.size < (W1.alloc (.cells #[.slice none 0 0] 25)).heap.size := by simp
          generalize W1.alloc (.cells #[.slice none 0 0] 25) = W9 at *
          generalize W1.heap.size = b9 at *
          refine held_one (i := 5) rfl (by kernel_rfl) (fun K hK => ?_)
          rw [if_pos (by kernel_rfl)]
          refine con_appends (t := 23) (T := 42) (m := itemK.size) (B := X4.heap.size) Tryd.underlying23 HI.out HZ0.out HZ1.out HZ2.out rfl (by decide) (by decide) (.tmp 76) (.tmp 80) rfl _ ([] : List (List Value)) (css.take i) i HL1.out rfl HC9.out g 0 sc rfl (fun j u hj => (hS9.cell hgl).trans (HFT.out j u hj)) HD1.out HO1.out (by show 0 + i ≤ 1000000; omega) hS9.size ?_
          intro pa10 pc10 W10 hcon10 hgr10 hat10
          generalize ([] : List (List Value)).length + i = k10 at *
          have hS10 := Below.own hS9 hgr10 (fun q hq => (own_lt HC9.out.own hq).1) hS9.size
          have HC10 := Lib.hid hcon10
          have HZ10 : Hid (Blk W10 b9 25 [.slice none 0 0]) := Lib.hid ((hgr10.block b9 HZ9.out.lt (fun h => HNE9.out b9 h.symm rfl)).trans HZ9.out)
          have HNE10 : Hid (∀ q, (Value.slice pa10 k10 pc10).ownBlock = some q → q ≠ b9) := Lib.hid (fun q hq => by
            rcases hat10 with h | h
            · exact HNE9.out q (h ▸ hq)
            · rw [h] at hq
              cases hq
              have := HZ9.out.lt
              omega)
          clear hcon10 hgr10 hat10
          refine hK.out _ _ (fun _ => hS10) ?_
          clear hK K
          try simp only [Act.put, List.setIfInBounds_toArray, List.set_cons_zero, List.set_cons_succ]
          refine held_one (i := 11) rfl (by kernel_rfl) (fun K hK => ?_)
          rw [if_pos (by kernel_rfl)]
          refine con_appends (t := 23) (T := 42) (m := itemK.size) (B := X4.heap.size) Tryd.underlying23 HI.out HZ0.out HZ1.out HZ2.out rfl (by decide) (by decide) (.tmp 81) (.tmp 86) rfl _ ([] ++ (css.take i) : List (List Value)) (css.drop (i + 1)) (n - (i + 1)) HL2.out rfl HC10.out g od (sc - (i + 1)) rfl (fun j u hj => (hS10.cell hgl).trans (HFD.out j u hj)) HD2.out HO2.out (by rw [List.nil_append, HL1.out]; omega) hS10.size ?_
          intro pa11 pc11 W11 hcon11 hgr11 hat11
          generalize ([] ++ (css.take i) : List (List Value)).length + (n - (i + 1)) = k11 at *
          have hS11 := Below.own hS10 hgr11 (fun q hq => (own_lt HC10.out.own hq).1) hS10.size
          have HC11 := Lib.hid hcon11
          have HZ11 : Hid (Blk W11 b9 25 [.slice none 0 0]) := Lib.hid ((hgr11.block b9 HZ10.out.lt (fun h => HNE10.out b9 h.symm rfl)).trans HZ10.out)
          have HNE11 : Hid (∀ q, (Value.slice pa11 k11 pc11).ownBlock = some q → q ≠ b9) := Lib.hid (fun q hq => by
            rcases hat11 with h | h
            · exact HNE10.out q (h ▸ hq)
            · rw [h] at hq
              cases hq
              have := HZ10.out.lt
              omega)
          clear hcon11 hgr11 hat11
          refine hK.out _ _ (fun _ => hS11) ?_
          clear hK K
          try simp only [Act.put, List.setIfInBounds_toArray, List.set_cons_zero, List.set_cons_succ]
          refine held_take [] (i := 12) (v := .agg #[.slice pa11 k11 pc11]) rfl (by kernel_rfl) (fun _ _ _ h => h) (Or.inl ⟨by rfl, fun w' hS => by go_simp⟩) hS11 ?_
          try simp only [Act.put, List.setIfInBounds_toArray, List.set_cons_zero, List.set_cons_succ]
          have hc12 := HZ11.out.cell (i := 0) rfl
          have hf12 := HZ11.out.free 0
          refine held_one (i := 14) rfl (by kernel_rfl) (fun K hK => ?_)
          go_simp
          have hz12 : X4.heap.size ≤ b9 := by omega
          have hS12 : Below X4.heap.size X4 (W11.setCell ⟨b9, 0, none⟩ (.slice pa11 k11 pc11)) := ((Kp.of_below (E := fun _ => False) hS11).setNew b9 0 hz12 (.slice pa11 k11 pc11)).below (Nat.le_refl _) (fun q hq => hq.elim)
          refine hK.out _ _ (fun _ => hS12) ?_
          clear hK K hc12 hf12
          try simp only [Act.put, List.setIfInBounds_toArray, List.set_cons_zero, List.set_cons_succ]
          refine held_done (by kernel_rfl) ?_ _
          refine hMK _ _ (Met.intro (hRJ _ _ ?_))
          (repeat apply Exists.intro)
          refine ⟨?rel12, rfl⟩
          have hcf := HC11.out.of_block (w' := W11.setCell ⟨b9, 0, none⟩ (.slice pa11 k11 pc11)) (fun q hq => Below.heap_setCell _ _ _ _ (HNE11.out q hq))
          refine ⟨b9, _, _, _, rfl, Lib.hid (HZ11.out.set 0 (.slice pa11 k11 pc11)), Lib.hid ⟨_, hcf.base (Nat.zero_le _), fun _ _ => trivial, ?_⟩, Lib.hid hS12⟩
          exact All2.imp (all2_append (all2_take HALL.out i) (all2_drop HALL.out (i + 1))) fun _ _ h => itemK.moved h (fun q _ hlt => hS12.block q hlt) (fun _ _ _ => trivial)
      · go_simp
        have HZ13 := Lib.hid (Blk.new wd 25 [.slice none 0 0])
        have hS13 := hS0.alloc hS0.size (.cells #[.slice none 0 0] 25)
        have hzb13 := hS0.size
        refine hK.out _ _ (fun _ => hS13) ?_
        clear hK K
        try simp only [Act.put, List.setIfInBounds_toArray, List.set_cons_zero, List.set_cons_succ]
        have hbs13 : wd.heap.size < (wd.alloc (.cells #[.slice none 0 0] 25)).heap.size := by simp
        generalize wd.alloc (.cells #[.slice none 0 0] 25) = W13 at *
        generalize wd.heap.size = b13 at *
        refine held_one (i := 0) rfl (by kernel_rfl) (fun K hK => ?_)
        go_simp
        have HC14 := Lib.hid (show Con (W13.alloc (.cells #[] 42)) X4.heap.size 42 itemK.size (.slice (some ⟨W13.heap.size, 0, none⟩) 0 0) [] from ⟨World.ownsRow_made W13 #[] 0 hS13.size (Nat.zero_le _) rfl, fun cs h => by cases h⟩)
        have hS14 := hS13.alloc hS13.size (.cells #[] 42)
        have HZ14 := Lib.hid (HZ13.out.alloc (.cells #[] 42))
        have hlt14 := HZ13.out.lt
        refine hK.out _ _ (fun _ => hS14) ?_
        clear hK K
        try simp only [Act.put, List.setIfInBounds_toArray, List.set_cons_zero, List.set_cons_succ]
        have hbs14 : W13.heap.size < (W13.alloc (.cells #[] 42)).heap.size := by simp
        generalize W13.alloc (.cells #[] 42) = W14 at *
        generalize W13.heap.size = b14 at *
        have HNE14 : Hid (∀ k, (Value.slice (some ⟨b14, 0, none⟩) 0 0).ownBlock = some k → k ≠ b13) := Lib.hid (fun k hk => by cases hk; show b14 ≠ b13; omega)
        refine held_one (i := 5) rfl (by kernel_rfl) (fun K hK => ?_)
        rw [if_pos (by kernel_rfl)]
        refine con_appends (t := 23) (T := 42) (m := itemK.size) (B := X4.heap.size) Tryd.underlying23 HI.out HZ0.out HZ1.out HZ2.out rfl (by decide) (by decide) (.tmp 76) (.tmp 80) rfl _ ([] : List (List Value)) (css.take i) i HL1.out rfl HC14.out g 0 sc rfl (fun j u hj => (hS14.cell hgl).trans (HFT.out j u hj)) HD1.out HO1.out (by show 0 + i ≤ 1000000; omega) hS14.size ?_
        intro pa15 pc15 W15 hcon15 hgr15 hat15
        generalize ([] : List (List Value)).length + i = k15 at *
        have hS15 := Below.own hS14 hgr15 (fun q hq => (own_lt HC14.out.own hq).1) hS14.size
        have HC15 := Lib.hid hcon15
        have HZ15 : Hid (Blk W15 b13 25 [.slice none 0 0]) := Lib.hid ((hgr15.block b13 HZ14.out.lt (fun h => HNE14.out b13 h.symm rfl)).trans HZ14.out)
        have HNE15 : Hid (∀ q, (Value.slice pa15 k15 pc15).ownBlock = some q → q ≠ b13) := Lib.hid (fun q hq => by
          rcases hat15 with h | h
          · exact HNE14.out q (h ▸ hq)
          · rw [h] at hq
            cases hq
            have := HZ14.out.lt
            omega)
        clear hcon15 hgr15 hat15
        refine hK.out _ _ (fun _ => hS15) ?_
        clear hK K
        try simp only [Act.put, List.setIfInBounds_toArray, List.set_cons_zero, List.set_cons_succ]
        refine held_one (i := 11) rfl (by kernel_rfl) (fun K hK => ?_)
        rw [if_pos (by kernel_rfl)]
        refine con_appends (t := 23) (T := 42) (m := itemK.size) (B := X4.heap.size) Tryd.underlying23 HI.out HZ0.out HZ1.out HZ2.out rfl (by decide) (by decide) (.tmp 81) (.tmp 86) rfl _ ([] ++ (css.take i) : List (List Value)) (css.drop (i + 1)) (n - (i + 1)) HL2.out rfl HC15.out g od (sc - (i + 1)) rfl (fun j u hj => (hS15.cell hgl).trans (HFD.out j u hj)) HD2.out HO2.out (by rw [List.nil_append, HL1.out]; omega) hS15.size ?_
        intro pa16 pc16 W16 hcon16 hgr16 hat16
        generalize ([] ++ (css.take i) : List (List Value)).length + (n - (i + 1)) = k16 at *
        have hS16 := Below.own hS15 hgr16 (fun q hq => (own_lt HC15.out.own hq).1) hS15.size
        have HC16 := Lib.hid hcon16
        have HZ16 : Hid (Blk W16 b13 25 [.slice none 0 0]) := Lib.hid ((hgr16.block b13 HZ15.out.lt (fun h => HNE15.out b13 h.symm rfl)).trans HZ15.out)
        have HNE16 : Hid (∀ q, (Value.slice pa16 k16 pc16).ownBlock = some q → q ≠ b13) := Lib.hid (fun q hq => by
          rcases hat16 with h | h
          · exact HNE15.out q (h ▸ hq)
          · rw [h] at hq
            cases hq
            have := HZ15.out.lt
            omega)
        clear hcon16 hgr16 hat16
        refine hK.out _ _ (fun _ => hS16) ?_
        clear hK K
        try simp only [Act.put, List.setIfInBounds_toArray, List.set_cons_zero, List.set_cons_succ]
        refine held_take [] (i := 12) (v := .agg #[.slice pa16 k16 pc16]) rfl (by kernel_rfl) (fun _ _ _ h => h) (Or.inl ⟨by rfl, fun w' hS => by go_simp⟩) hS16 ?_
        try simp only [Act.put, List.setIfInBounds_toArray, List.set_cons_zero, List.set_cons_succ]
        have hc17 := HZ16.out.cell (i := 0) rfl
        have hf17 := HZ16.out.free 0
        refine held_one (i := 14) rfl (by kernel_rfl) (fun K hK => ?_)
        go_simp
        have hz17 : X4.heap.size ≤ b13 := by omega
        have hS17 : Below X4.heap.size X4 (W16.setCell ⟨b13, 0, none⟩ (.slice pa16 k16 pc16)) := ((Kp.of_below (E := fun _ => False) hS16).setNew b13 0 hz17 (.slice pa16 k16 pc16)).below (Nat.le_refl _) (fun q hq => hq.elim)
        refine hK.out _ _ (fun _ => hS17) ?_
        clear hK K hc17 hf17
        try simp only [Act.put, List.setIfInBounds_toArray, List.set_cons_zero, List.set_cons_succ]
        refine held_done (by kernel_rfl) ?_ _
        refine hMK _ _ (Met.intro (hRJ _ _ ?_))
        (repeat apply Exists.intro)
        refine ⟨?rel17, rfl⟩
        have hcf := HC16.out.of_block (w' := W16.setCell ⟨b13, 0, none⟩ (.slice pa16 k16 pc16)) (fun q hq => Below.heap_setCell _ _ _ _ (HNE16.out q hq))
        refine ⟨b13, _, _, _, rfl, Lib.hid (HZ16.out.set 0 (.slice pa16 k16 pc16)), Lib.hid ⟨_, hcf.base (Nat.zero_le _), fun _ _ => trivial, ?_⟩, Lib.hid hS17⟩
        exact All2.imp (all2_append (all2_take HALL.out i) (all2_drop HALL.out (i + 1))) fun _ _ h => itemK.moved h (fun q _ hlt => hS17.block q hlt) (fun _ _ _ => trivial)
    case rest =>
      obtain ⟨zb, pv, k, pc, rfl, HZB, HIS, HS5⟩ := hcut
      have Z5 := Lib.hid (Z4.out.below HS5.out); have M5 := Lib.hid (M4.out.below HS5.out); have HS6 := Lib.hid (HS4.out.call HS5.out)
      clear Z4 M4 HS4 HS5
      have c5 := Z5.out.cell (i := 0) rfl
      have c6 := HZB.out.cell (i := 0) rfl
      go_wp2_with fail
      refine (same_false bs (xs.take i ++ xs.drop (i + 1)) HSAME.out _ _ _ _ _ M5.out HIS.out).mono ?_; rintro e w7 ⟨rfl, hb7⟩
      have HS7 := Lib.hid (HS6.out.call hb7); clear hb7
      go_wp2
      go_ret
      exact ⟨rfl, HS7.out⟩
theorem leaves_walk_of (hh : HeadC) (a : ByteArray) (r : Int) (hr0 : 0 ≤ r) (hr1 : r < 256) (w : World) : Calls Tryd.prog 8 #[.string a, .int .u8 r] w fun e w' => e = .returned (.bool true) ∧ Below w.heap.size w w' := by
  by_cases ha : 4000 < a.size
  · exact leaves_idle hh a r w (Or.inl ha)
  obtain ⟨xs, E, O, hp⟩ : ∃ x E O, parseAll a.data.toList = (x, E, O) := ⟨_, _, _, rfl⟩
  by_cases hE : E = 0
  · subst hE
    by_cases hx : xs = []
    · exact leaves_idle hh a r w (Or.inr (Or.inr (by rw [hp]; exact hx)))
    · exact leaves_main hh a r hr0 hr1 w (by omega) xs O hp hx
  · exact leaves_idle hh a r w (Or.inr (Or.inl (by rw [hp]; exact hE)))
end Go.Proofs.YtllhonjhjhajjaaDoor
