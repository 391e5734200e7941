/-
  The law RuleJoins: its walk.
-/
import Derived.Test.YtllhonjhjhajjaaDoorLawHelp7
import Derived.Test.YtllhonjhjhajjaaDoorWalkMoved
import Derived.Test.YtllhonjhjhajjaaDoorLawLeaves
import Derived.Laws.OwnMore
namespace Go.Proofs.YtllhonjhjhajjaaDoor
open Go.RowKit Go.Sort Go.Shelf Foyer.Rule Foyer.Round

theorem parse_len {l : List UInt8} {x : List ItemP} {E : Nat} {O : Int} (h : parseAll l = (x, E, O)) : x.length ≤ 200 := by
  by_cases hE : E = 0
  · subst hE
    obtain ⟨ts, _, _, _, h4⟩ := parse_inv h
    exact rest_length h4
  · rw [none_of h hE]; exact Nat.zero_le _
theorem lex_none {l : List UInt8} (h : (Foyer.Lexer.lexAll l).2.1 ≠ 0) : (Foyer.Lexer.lexAll l).1 = [] := by
  unfold Foyer.Lexer.lexAll at h ⊢
  split
  · rfl
  · rename_i hl
    rw [if_neg hl] at h
    simp only at h ⊢
    split
    · rfl
    · rename_i hd
      rw [hd] at h
      simp only at h
      split
      · rename_i he; rw [he] at h; simp at h
      · rfl
theorem rules_field0 (a : Value) (w : World) : (Instr.field 25 (.agg #[a]) 0).run Tryd.prog w = .ok a w := by kernel_rfl
theorem cells_one {W : World} {F : Nat → Prop} {css : List (List Value)} {xs : List ItemP} (h : All2 (itemK.is W F) css xs) : ∀ d ∈ css, ∀ u ∈ d, u.oneCell' = true := by
  induction h with
  | nil => intro d hd; cases hd
  | cons h _ ih =>
    intro d hd
    rcases List.mem_cons.1 hd with rfl | hd
    · exact itemK.one h
    · exact ih d hd
theorem moved_n (y ys : List ItemP) (d N n : Nat) (hys : y.map (ItemP.moved d) = ys) (hyn : y.length = n) (hd : d ≤ 4001) (hN : N ≤ 4000) (hs : Small N y) (hn : n ≤ 200) (a : Option Addr) (c : Nat) (F : Nat → Prop) (w : World) (h : IsList itemK w F 42 (.slice a n c) y) :
    Calls Tryd.prog 14 #[.agg #[.slice a n c], .int .i64 (d : Nat)] w fun e w' => (∃ p q, e = .returned (.agg #[.slice p n q]) ∧ IsList itemK w' (fun k => w.heap.size ≤ k) 42 (.slice p n q) ys) ∧ Below w.heap.size w w' := by
  refine (moved_any y d N hd hN hs (by rw [hyn]; exact hn) _ F w h).mono ?_
  rintro e w' ⟨⟨v', rfl, hv⟩, hb⟩
  rw [hys] at hv
  obtain ⟨p, q, rfl⟩ := hv.len
  have hyl : ys.length = n := by rw [← hys, List.length_map]; exact hyn
  rw [hyl] at hv ⊢
  exact ⟨⟨p, q, rfl, hv⟩, hb⟩
theorem con_appends_con {w : World} {B B' T t m bytes : Nat} {i0 : TypeInfo} {z : Value} (ht : Tryd.prog.underlying t = some (.slice T)) (hi : Tryd.prog.info? T = some i0) (hz0 : i0.zero = some z) (hz1 : i0.size = m) (hz2 : i0.bytes = bytes) (hzs : z.cells.size = m) (hm : 0 < m) (hby : bytes ≤ 200)
    {o : Oper} {a : Act} {K : Act → World → Prop} {Q : Exit → Act → World → Prop} (s x : Operand)
    (hop : o.op = Op.call { callee := Callee.builtin Builtin.append, args := #[s, x], argTypes := #[t, t] })
    (v : Value) (css dss : List (List Value)) (k : Nat) (hk : dss.length = k) (hs : a.eval s = v) (hown : Con w B T m v css) (src : Value) (hx : a.eval x = src) (hsrc : Con w B' T m src dss)
    (h1 : ∀ d ∈ dss, ∀ u ∈ d, u.oneCell' = true) (hlen : css.length + k ≤ 1000000) (hB : B ≤ w.heap.size)
    (hK : ∀ pa pc w', Con w' B T m (.slice pa (css.length + k) pc) (css ++ dss) → w.grownBy w' v.ownBlock → ((Value.slice pa (css.length + k) pc).ownBlock = v.ownBlock ∨ (Value.slice pa (css.length + k) pc).ownBlock = some w.heap.size) → K (a.put o.dst (.slice pa (css.length + k) pc)) w') : Oper.wp Tryd.prog o a w K Q := by
  rcases hsrc.form with ⟨rfl, rfl⟩ | ⟨g, cap, cur, rfl, _, hg, _, _, _, hcell⟩
  · subst hk
    have hr := run_append_owned_none (P := Tryd.prog) (w := w) B t o.type T i0 m ht hi v css.length css.flatten hown.own
    unfold Oper.wp execOp
    simp only [hop, resolve, invoke, builtin, Sem.run_bind, Sem.run_pure, Result.andThen_ok, List.map_toArray, List.map_cons, List.map_nil, hs, hx, hr]
    have hv : ∃ pa pc, v = .slice pa css.length pc := by
      rcases hown.own.2 with ⟨h, hn⟩ | ⟨g, cap, cur, h, _⟩
      · exact ⟨none, 0, by rw [hn]; exact h⟩
      · exact ⟨_, _, h⟩
    obtain ⟨pa, pc, rfl⟩ := hv
    have := hK pa pc w (by rw [List.append_nil]; exact hown) ⟨rfl, rfl, rfl, Nat.le_refl _, fun _ _ _ => rfl⟩ (Or.inl rfl)
    exact this
  · exact con_appends ht hi hz0 hz1 hz2 hzs hm hby s x hop v css dss k hk hs hown g 0 cap (by rw [hx, hk]) (fun j u hj => by rw [Nat.zero_add]; exact hsrc.cells_at j u hj) (fun d hd => hsrc.each d hd) h1 hlen hB hK
set_option linter.unusedSimpArgs false in
set_option maxRecDepth 100000 in
set_option maxHeartbeats 8000000 in
theorem joins_long (hh : HeadC) (a b : ByteArray) (w : World) (h : 4000 < a.size ∨ 4000 < b.size) :
    Calls Tryd.prog 4 #[.string a, .string b] w fun e w' => e = .returned (.bool true) ∧ Below w.heap.size w w' := by
  have HS : Hid (Since w w) := Below.refl _ _
  have HH := Lib.hid hh
  clear hh
  by_cases h1 : 4000 < a.size
  · have hd : decide ((4000 : Int) < (a.size : Int)) = true := by simp; omega
    clear h
    go_enter Tryd.func4, Tryd.ntmps4
    go_wp2_with fail
    refine (HH.out _).mono ?_; rintro e w1 ⟨rfl, hb1⟩
    have HS1 := Lib.hid (HS.out.call hb1); clear hb1
    go_wp2
    go_ret
    exact ⟨rfl, HS1.out⟩
  · have hd : decide ((4000 : Int) < (a.size : Int)) = false := by simp; omega
    have hd2 : decide ((4000 : Int) < (b.size : Int)) = true := by simp; omega
    clear h
    go_enter Tryd.func4, Tryd.ntmps4
    go_wp2_with fail
    refine (HH.out _).mono ?_; rintro e w1 ⟨rfl, hb1⟩
    have HS1 := Lib.hid (HS.out.call hb1); clear hb1
    go_wp2
    go_ret
    exact ⟨rfl, HS1.out⟩
set_option linter.unusedSimpArgs false in
set_option maxRecDepth 100000 in
set_option maxHeartbeats 8000000 in
theorem joins_idle (hh : HeadC) (a b : ByteArray) (w : World) (ha : a.size ≤ 4000) (hb : b.size ≤ 4000) (x : List ItemP) (E : Nat) (O : Int) (hp : parseAll a.data.toList = (x, E, O)) (y : List ItemP) (F : Nat) (O2 : Int) (hq : parseAll b.data.toList = (y, F, O2)) (hi : E ≠ 0 ∨ F ≠ 0 ∨ 200 < x.length + y.length) :
    Calls Tryd.prog 4 #[.string a, .string b] w fun e w' => e = .returned (.bool true) ∧ Below w.heap.size w w' := by
  obtain ⟨n1, hn1⟩ : ∃ n, x.length = n := ⟨_, rfl⟩
  obtain ⟨n2, hn2⟩ : ∃ n, y.length = n := ⟨_, rfl⟩
  have hl1 : n1 ≤ 200 := by rw [← hn1]; exact parse_len hp
  have hl2 : n2 ≤ 200 := by rw [← hn2]; exact parse_len hq
  have HS : Hid (Since w w) := Below.refl _ _
  have HH := Lib.hid hh
  have hd : decide ((4000 : Int) < (a.size : Int)) = false := by simp; omega
  have hd2 : decide ((4000 : Int) < (b.size : Int)) = false := by simp; omega
  have HP := Lib.hid (fun w => rule_s a (by omega) x E O hp w)
  have HQ := Lib.hid (fun w => rule_s b (by omega) y F O2 hq w)
  rw [hn1] at HP
  rw [hn2] at HQ
  rw [hn1, hn2] at hi
  have HI := Lib.hid hi
  clear hp hq hh hi hn1 hn2
  go_enter Tryd.func4, Tryd.ntmps4
  go_wp2_with fail
  refine (HH.out _).mono ?_; rintro e w1 ⟨rfl, hb1⟩
  have HS1 := Lib.hid (HS.out.call hb1); clear hb1
  go_wp2_with fail
  refine (HP.out _).mono ?_; rintro e w2 ⟨sa, sc, rfl, hv2, hb2⟩
  have hB2 := hb2.alloc hb2.size (.cells #[.slice sa n1 sc] 25)
  have P2 := Lib.hid (Blk.new w2 25 [.slice sa n1 sc])
  have L2 := Lib.hid (hv2.late ((Below.refl w2.heap.size w2).alloc (Nat.le_refl _) (.cells #[.slice sa n1 sc] 25)))
  have HS2 := Lib.hid (HS1.out.call hB2)
  clear hb2 hB2 hv2
  go_upto_region 5 with fail
  have P2 : Hid (Blk (w2.alloc (.cells #[.slice sa n1 sc] 25)) w2.heap.size 25 [.slice sa n1 sc]) := P2
  generalize w2.alloc (.cells #[.slice sa n1 sc] 25) = X2 at *
  generalize w2.heap.size = v2 at *
  go_wp2_with fail
  refine (HQ.out _).mono ?_; rintro e w3 ⟨sb, sd, rfl, hv3, hb3⟩
  have hB3 := hb3.alloc hb3.size (.cells #[.slice sb n2 sd] 25)
  have P3 := Lib.hid (P2.out.below hB3); have L3 := Lib.hid (L2.out.below hB3)
  have Q3 := Lib.hid (Blk.new w3 25 [.slice sb n2 sd])
  have M3 := Lib.hid (hv3.late ((Below.refl w3.heap.size w3).alloc (Nat.le_refl _) (.cells #[.slice sb n2 sd] 25)))
  have HS3 := Lib.hid (HS2.out.call hB3)
  clear hb3 hB3 hv3 P2 L2
  go_upto_region 6 with fail
  have Q3 : Hid (Blk (w3.alloc (.cells #[.slice sb n2 sd] 25)) w3.heap.size 25 [.slice sb n2 sd]) := Q3
  generalize w3.alloc (.cells #[.slice sb n2 sd] 25) = X3 at *
  generalize w3.heap.size = v3 at *
  have p0 := P3.out.cell (i := 0) rfl
  have q0 := Q3.out.cell (i := 0) rfl
  by_cases h1 : E = 0
  · have e1 : (((E : Nat) : Int) != 0) = false := by simp [h1]
    by_cases h2 : F = 0
    · have e2 : (((F : Nat) : Int) != 0) = false := by simp [h2]
      have h3 : 200 < n1 + n2 := (HI.out.resolve_left (fun h => h h1)).resolve_left (fun h => h h2)
      have e3 : decide ((200 : Int) < (n1 : Int) + (n2 : Int)) = true := by simp; omega
      clear h1 h2
      go_wp2
      go_ret
      exact ⟨rfl, HS3.out⟩
    · have e2 : (((F : Nat) : Int) != 0) = true := by simp [h2]
      clear h1 h2
      go_wp2
      go_ret
      exact ⟨rfl, HS3.out⟩
  · have e1 : (((E : Nat) : Int) != 0) = true := by simp [h1]
    clear h1
    go_wp2
    go_ret
    exact ⟨rfl, HS3.out⟩
set_option linter.unusedSimpArgs false in
set_option maxRecDepth 100000 in
set_option maxHeartbeats 8000000 in
theorem joins_lex (hh : HeadC) (a b : ByteArray) (w : World) (ha : a.size ≤ 4000) (hb : b.size ≤ 4000) (x : List ItemP) (O : Int) (hp : parseAll a.data.toList = (x, 0, O)) (y : List ItemP) (O2 : Int) (hq : parseAll b.data.toList = (y, 0, O2)) (hi : x.length + y.length ≤ 200) (J : ByteArray) (hJ : a ++ ⟨#[10]⟩ ++ b = J) (E : Nat) (N : Int) (hxJ : Foyer.Lexer.lexAll J.data.toList = ([], E, N)) (hE : E ≠ 0) :
    Calls Tryd.prog 4 #[.string a, .string b] w fun e w' => e = .returned (.bool true) ∧ Below w.heap.size w w' := by
  obtain ⟨n1, hn1⟩ : ∃ n, x.length = n := ⟨_, rfl⟩
  obtain ⟨n2, hn2⟩ : ∃ n, y.length = n := ⟨_, rfl⟩
  have hl1 : n1 ≤ 200 := by rw [← hn1]; exact parse_len hp
  have hl2 : n2 ≤ 200 := by rw [← hn2]; exact parse_len hq
  have HS : Hid (Since w w) := Below.refl _ _
  have HH := Lib.hid hh
  have hd : decide ((4000 : Int) < (a.size : Int)) = false := by simp; omega
  have hd2 : decide ((4000 : Int) < (b.size : Int)) = false := by simp; omega
  have HP := Lib.hid (fun w => rule_s a (by omega) x 0 O hp w)
  have HQ := Lib.hid (fun w => rule_s b (by omega) y 0 O2 hq w)
  rw [hn1] at HP
  rw [hn2] at HQ
  rw [hn1, hn2] at hi
  have e3 : decide ((200 : Int) < (n1 : Int) + (n2 : Int)) = false := by simp; omega
  have hjs := join_size a b
  have hs1 : a.size + 1 ≤ 9223372036854775807 := by omega
  have hs2 : a.size + 1 + b.size ≤ 9223372036854775807 := by omega
  have hs5 : (a ++ ⟨#[10]⟩ : ByteArray).size + b.size ≤ 9223372036854775807 := by rw [ByteArray.size_append]; show a.size + 1 + b.size ≤ _; omega
  rw [hJ] at hjs
  have hpJ : parseAll J.data.toList = ([], E, N) := by
    have h := lex_code (l := J.data.toList) (by rw [hxJ]; exact hE)
    rw [hxJ] at h
    exact h
  have HPJ := Lib.hid (fun w => rule_s J (by omega) [] E N hpJ w)
  have HLJ := Lib.hid (fun w => lex_c J (by omega) [] E N hxJ w)
  have e1 : (((E : Nat) : Int) != 0) = true := by simp [hE]
  have e4 : (((E : Nat) : Int) == ((E : Nat) : Int)) = true := by simp
  clear hp hq hh hi hn1 hn2 hpJ hxJ hE
  go_enter Tryd.func4, Tryd.ntmps4
  go_wp2_with fail
  refine (HH.out _).mono ?_; rintro e w1 ⟨rfl, hb1⟩
  have HS1 := Lib.hid (HS.out.call hb1); clear hb1
  go_wp2_with fail
  refine (HP.out _).mono ?_; rintro e w2 ⟨sa, sc, rfl, hv2, hb2⟩
  have hB2 := hb2.alloc hb2.size (.cells #[.slice sa n1 sc] 25)
  have P2 := Lib.hid (Blk.new w2 25 [.slice sa n1 sc])
  have L2 := Lib.hid (hv2.late ((Below.refl w2.heap.size w2).alloc (Nat.le_refl _) (.cells #[.slice sa n1 sc] 25)))
  have HS2 := Lib.hid (HS1.out.call hB2)
  clear hb2 hB2 hv2
  go_upto_region 5 with fail
  have P2 : Hid (Blk (w2.alloc (.cells #[.slice sa n1 sc] 25)) w2.heap.size 25 [.slice sa n1 sc]) := P2
  generalize w2.alloc (.cells #[.slice sa n1 sc] 25) = X2 at *
  generalize w2.heap.size = v2 at *
  go_wp2_with fail
  refine (HQ.out _).mono ?_; rintro e w3 ⟨sb, sd, rfl, hv3, hb3⟩
  have hB3 := hb3.alloc hb3.size (.cells #[.slice sb n2 sd] 25)
  have P3 := Lib.hid (P2.out.below hB3); have L3 := Lib.hid (L2.out.below hB3)
  have Q3 := Lib.hid (Blk.new w3 25 [.slice sb n2 sd])
  have M3 := Lib.hid (hv3.late ((Below.refl w3.heap.size w3).alloc (Nat.le_refl _) (.cells #[.slice sb n2 sd] 25)))
  have HS3 := Lib.hid (HS2.out.call hB3)
  clear hb3 hB3 hv3 P2 L2
  go_upto_region 6 with fail
  have Q3 : Hid (Blk (w3.alloc (.cells #[.slice sb n2 sd] 25)) w3.heap.size 25 [.slice sb n2 sd]) := Q3
  generalize w3.alloc (.cells #[.slice sb n2 sd] 25) = X3 at *
  generalize w3.heap.size = v3 at *
  have p0 := P3.out.cell (i := 0) rfl
  have q0 := Q3.out.cell (i := 0) rfl
  go_wp2_with fail
  refine (HLJ.out _).mono ?_; rintro e w4 ⟨q2, cap2, rfl, _, _, _, hb4⟩
  have HS4 := Lib.hid (HS3.out.call hb4); clear hb4
  go_wp2_with fail
  refine (HPJ.out _).mono ?_; rintro e w5 ⟨sa2, sc2, rfl, _, hb5⟩
  have HS5 := Lib.hid (HS4.out.call (hb5.alloc hb5.size (.cells #[.slice sa2 ([] : List ItemP).length sc2] 25)))
  clear hb5
  go_upto_region 10 with fail
  generalize w5.alloc (.cells #[.slice sa2 ([] : List ItemP).length sc2] 25) = X5 at *
  go_wp2
  go_ret
  exact ⟨rfl, HS5.out⟩
set_option linter.unusedSimpArgs false in
set_option maxRecDepth 100000 in
set_option maxHeartbeats 8000000 in
theorem joins_main (hh : HeadC) (a b : ByteArray) (w : World) (ha : a.size ≤ 4000) (hb : b.size ≤ 4000) (x : List ItemP) (O : Int) (hp : parseAll a.data.toList = (x, 0, O)) (y : List ItemP) (O2 : Int) (hq : parseAll b.data.toList = (y, 0, O2)) (hi : x.length + y.length ≤ 200) (J : ByteArray) (hJ : a ++ ⟨#[10]⟩ ++ b = J) (ts : List TokP) (hxJ : Foyer.Lexer.lexAll J.data.toList = (ts, 0, 0)) (hpJ : parseAll J.data.toList = (x ++ y.map (ItemP.moved (a.size + 1)), 0, 0)) :
    Calls Tryd.prog 4 #[.string a, .string b] w fun e w' => e = .returned (.bool true) ∧ Below w.heap.size w w' := by
  obtain ⟨n1, hn1⟩ : ∃ n, x.length = n := ⟨_, rfl⟩
  obtain ⟨n2, hn2⟩ : ∃ n, y.length = n := ⟨_, rfl⟩
  have hl1 : n1 ≤ 200 := by rw [← hn1]; exact parse_len hp
  have hl2 : n2 ≤ 200 := by rw [← hn2]; exact parse_len hq
  have HS : Hid (Since w w) := Below.refl _ _
  have HH := Lib.hid hh
  have hd : decide ((4000 : Int) < (a.size : Int)) = false := by simp; omega
  have hd2 : decide ((4000 : Int) < (b.size : Int)) = false := by simp; omega
  have HP := Lib.hid (fun w => rule_s a (by omega) x 0 O hp w)
  have HQ := Lib.hid (fun w => rule_s b (by omega) y 0 O2 hq w)
  rw [hn1] at HP
  rw [hn2] at HQ
  rw [hn1, hn2] at hi
  have e3 : decide ((200 : Int) < (n1 : Int) + (n2 : Int)) = false := by simp; omega
  have hjs := join_size a b
  have hs1 : a.size + 1 ≤ 9223372036854775807 := by omega
  have hs2 : a.size + 1 + b.size ≤ 9223372036854775807 := by omega
  have hs5 : (a ++ ⟨#[10]⟩ : ByteArray).size + b.size ≤ 9223372036854775807 := by rw [ByteArray.size_append]; show a.size + 1 + b.size ≤ _; omega
  rw [hJ] at hjs
  have hsm := small_parse hq
  obtain ⟨d, hdd⟩ : ∃ d : Nat, a.size + 1 = d := ⟨_, rfl⟩
  rw [hdd] at hpJ
  obtain ⟨ys, hys⟩ : ∃ ys, y.map (ItemP.moved d) = ys := ⟨_, rfl⟩
  rw [hys] at hpJ
  have hd9 : d ≤ 4001 := by omega
  have HYS := Lib.hid hys
  have HYL : Hid (ys.length = n2) := Lib.hid (by rw [← hys, List.length_map]; exact hn2)
  obtain ⟨nj, hnj⟩ : ∃ n, (x ++ ys).length = n := ⟨_, rfl⟩
  have HPJ := Lib.hid (fun w => rule_s J (by omega) _ 0 0 hpJ w)
  rw [hnj] at HPJ
  have HLJ := Lib.hid (fun w => lex_c J (by omega) ts 0 0 hxJ w)
  have hlb : b.data.toList.length ≤ 4000 := by rw [size_toList]; exact hb
  have HN1 := Lib.hid hn1; have HN2 := Lib.hid hn2; have HSM := Lib.hid hsm; have HNJ := Lib.hid hnj; have HLB := Lib.hid hlb
  clear hp hq hh hi hn1 hn2 hpJ hxJ hsm hnj hlb hys
  go_enter Tryd.func4, Tryd.ntmps4
  go_wp2_with fail
  refine (HH.out _).mono ?_; rintro e w1 ⟨rfl, hb1⟩
  have HS1 := Lib.hid (HS.out.call hb1); clear hb1
  go_wp2_with fail
  refine (HP.out _).mono ?_; rintro e w2 ⟨sa, sc, rfl, hv2, hb2⟩
  have hB2 := hb2.alloc hb2.size (.cells #[.slice sa n1 sc] 25)
  have P2 := Lib.hid (Blk.new w2 25 [.slice sa n1 sc])
  have L2 := Lib.hid (hv2.late ((Below.refl w2.heap.size w2).alloc (Nat.le_refl _) (.cells #[.slice sa n1 sc] 25)))
  have HS2 := Lib.hid (HS1.out.call hB2)
  clear hb2 hB2 hv2
  go_upto_region 5 with fail
  have P2 : Hid (Blk (w2.alloc (.cells #[.slice sa n1 sc] 25)) w2.heap.size 25 [.slice sa n1 sc]) := P2
  generalize w2.alloc (.cells #[.slice sa n1 sc] 25) = X2 at *
  generalize w2.heap.size = v2 at *
  go_wp2_with fail
  refine (HQ.out _).mono ?_; rintro e w3 ⟨sb, sd, rfl, hv3, hb3⟩
  have hB3 := hb3.alloc hb3.size (.cells #[.slice sb n2 sd] 25)
  have P3 := Lib.hid (P2.out.below hB3); have L3 := Lib.hid (L2.out.below hB3)
  have Q3 := Lib.hid (Blk.new w3 25 [.slice sb n2 sd])
  have M3 := Lib.hid (hv3.late ((Below.refl w3.heap.size w3).alloc (Nat.le_refl _) (.cells #[.slice sb n2 sd] 25)))
  have HS3 := Lib.hid (HS2.out.call hB3)
  clear hb3 hB3 hv3 P2 L2
  go_upto_region 6 with fail
  have Q3 : Hid (Blk (w3.alloc (.cells #[.slice sb n2 sd] 25)) w3.heap.size 25 [.slice sb n2 sd]) := Q3
  generalize w3.alloc (.cells #[.slice sb n2 sd] 25) = X3 at *
  generalize w3.heap.size = v3 at *
  have p0 := P3.out.cell (i := 0) rfl
  have q0 := Q3.out.cell (i := 0) rfl
  go_wp2_with fail
  refine (HLJ.out _).mono ?_; rintro e w4 ⟨q2, cap2, rfl, _, _, _, hb4⟩
  have HS4 := Lib.hid (HS3.out.call hb4)
  have P4 := Lib.hid (P3.out.below hb4); have L4 := Lib.hid (L3.out.below hb4); have Q4 := Lib.hid (Q3.out.below hb4); have M4 := Lib.hid (M3.out.below hb4)
  clear hb4 P3 L3 Q3 M3 HS3 p0 q0
  go_wp2_with fail
  refine (HPJ.out _).mono ?_; rintro e w5 ⟨sj, cj, rfl, hv5, hb5⟩
  have hB5 := hb5.alloc hb5.size (.cells #[.slice sj nj cj] 25)
  have P5 := Lib.hid (P4.out.below hB5); have L5 := Lib.hid (L4.out.below hB5); have Q5 := Lib.hid (Q4.out.below hB5); have M5 := Lib.hid (M4.out.below hB5)
  have J5 := Lib.hid (Blk.new w5 25 [.slice sj nj cj])
  have K5 := Lib.hid (hv5.late ((Below.refl w5.heap.size w5).alloc (Nat.le_refl _) (.cells #[.slice sj nj cj] 25)))
  have HS5 := Lib.hid (HS4.out.call hB5)
  clear hb5 hB5 hv5 P4 L4 Q4 M4 HS4
  go_upto_region 10 with fail
  have J5 : Hid (Blk (w5.alloc (.cells #[.slice sj nj cj] 25)) w5.heap.size 25 [.slice sj nj cj]) := J5
  generalize w5.alloc (.cells #[.slice sj nj cj] 25) = X5 at *
  generalize w5.heap.size = v5 at *
  go_upto_region 12 with fail
  obtain ⟨css, hcx, _, hall⟩ := L5.out
  have hcl : css.length = n1 := by rw [All2.length hall]; exact HN1.out
  have hone := cells_one hall
  obtain ⟨i0, hi0, hz0, hz1, hz2⟩ := info_parts' moved_item_info
  have HCX := Lib.hid hcx; have HL1 := Lib.hid hcl; have HO1 : Hid (∀ d ∈ css, ∀ u ∈ d, u.oneCell' = true) := Lib.hid hone; have HALL := Lib.hid hall
  have HI := Lib.hid hi0; have HZ0 := Lib.hid hz0; have HZ1 := Lib.hid hz1; have HZ2 := Lib.hid hz2
  clear hcx hcl hone hall hi0 hz0 hz1 hz2
  go_cut [18] from 89 (fun v wx => ∃ (zb : Nat) (pv : Option Addr) (k pc : Nat), v = .pointer (some ⟨zb, 0, none⟩) ∧ Hid (Blk wx zb 25 [.slice pv k pc]) ∧ Hid (IsList itemK wx (fun _ => True) 42 (.slice pv k pc) (x ++ ys)) ∧ Hid (Below X5.heap.size X5 wx))
  case first =>
    rename_i J KM hRJ hMK
    refine wp_region_any (by kernel_rfl) ?_
    refine any_of_held (S := fun W => Below X5.heap.size X5 W) (N := []) _ _ _ _ ?_
    have hS0 : Below X5.heap.size X5 X5.drew := (Below.refl _ _).drew
    change held _ _ _ _ _ _ _ _ _ X5.drew
    generalize X5.drew = wd at *
    refine held_take [] (i := 1) (v := .pointer (some ⟨v2, 0, none⟩)) rfl (by kernel_rfl) (fun _ _ _ h => h) (Or.inl ⟨by rfl, fun w' hS => by go_simp⟩) hS0 ?_
    try simp only [Act.put, List.setIfInBounds_toArray, List.set_cons_zero, List.set_cons_succ]
    refine held_take [] (i := 2) (v := .slice sa n1 sc) rfl (by kernel_rfl) (fun _ _ _ h => h) (Or.inl ⟨by rfl, fun w' hS => by have := (hS.cell (p := ⟨v2, 0, none⟩) P5.out.lt).trans (P5.out.cell (i := 0) rfl); go_simp⟩) hS0 ?_
    try simp only [Act.put, List.setIfInBounds_toArray, List.set_cons_zero, List.set_cons_succ]
    refine held_take [] (i := 4) (v := .agg #[.slice sb n2 sd]) rfl (by kernel_rfl) (fun _ _ _ h => h) (Or.inl ⟨by rfl, fun w' hS => by have := (hS.cell (p := ⟨v3, 0, none⟩) Q5.out.lt).trans (Q5.out.cell (i := 0) rfl); go_simp⟩) hS0 ?_
    try simp only [Act.put, List.setIfInBounds_toArray, List.set_cons_zero, List.set_cons_succ]
    refine held_take [] (i := 5) (v := .string a) rfl (by kernel_rfl) (fun _ _ _ h => h) (Or.inl ⟨by rfl, fun w' hS => by go_simp⟩) hS0 ?_
    try simp only [Act.put, List.setIfInBounds_toArray, List.set_cons_zero, List.set_cons_succ]
    refine held_take [] (i := 6) (v := .int .i64 (a.size : Nat)) rfl (by kernel_rfl) (fun _ _ _ h => h) (Or.inl ⟨by rfl, fun w' hS => by go_simp⟩) hS0 ?_
    try simp only [Act.put, List.setIfInBounds_toArray, List.set_cons_zero, List.set_cons_succ]
    refine held_take [] (i := 7) (v := .int .i64 (d : Nat)) rfl (by kernel_rfl) (fun _ _ _ h => h) (Or.inl ⟨by rfl, fun w' hS => by have hw7 : IntKind.i64.wrap ((a.size : Int) + 1) = (d : Int) := (by rw [IntKind.wrap_i64]; omega); go_simp⟩) hS0 ?_
    try simp only [Act.put, List.setIfInBounds_toArray, List.set_cons_zero, List.set_cons_succ]
    refine held_two (i := 0) (j := 12) rfl rfl (by kernel_rfl) (fun K hK => ?_) (fun K hK => ?_)
    · go_simp
      have HC1 := Lib.hid (show Con (wd.alloc (.cells #[] 42)) X5.heap.size 42 itemK.size (.slice (some ⟨wd.heap.size, 0, none⟩) 0 0) [] from ⟨World.ownsRow_made wd #[] 0 hS0.size (Nat.zero_le _) rfl, fun cs h => by cases h⟩)
      have hS1 := hS0.alloc hS0.size (.cells #[] 42)
      refine hK.out _ _ (fun _ => hS1) ?_
      clear hK K
      try simp only [Act.put, List.setIfInBounds_toArray, List.set_cons_zero, List.set_cons_succ]
      have hbs1 : wd.heap.size < (wd.alloc (.cells #[] 42)).heap.size := by simp
      generalize wd.alloc (.cells #[] 42) = W1 at *
      generalize wd.heap.size = b1 at *
      refine held_two (i := 3) (j := 12) rfl rfl (by kernel_rfl) (fun K hK => ?_) (fun K hK => ?_)
      · rw [if_pos (by kernel_rfl)]
        have hsc2 := HCX.out.of_block (w' := W1) (fun q hq => hS1.block q (own_lt HCX.out.own hq).2)
        refine con_appends_con (t := 23) (T := 42) (m := itemK.size) (B := X5.heap.size) Tryd.underlying23 HI.out HZ0.out HZ1.out HZ2.out rfl (by decide) (by decide) (.tmp 89) (.tmp 91) rfl _ ([] : List (List Value)) css n1 HL1.out rfl HC1.out (.slice sa n1 sc) rfl hsc2 HO1.out (by show 0 + n1 ≤ 1000000; omega) hS1.size ?_
        intro pa2 pc2 W2 hcon2 hgr2 hat2
        generalize ([] : List (List Value)).length + n1 = k2 at *
        have hS2 := Below.own hS1 hgr2 (fun q hq => (own_lt HC1.out.own hq).1) hS1.size
        have HC2 := Lib.hid hcon2
        clear hcon2 hgr2 hat2
        refine hK.out _ _ (fun _ => hS2) ?_
        clear hK K
        try simp only [Act.put, List.setIfInBounds_toArray, List.set_cons_zero, List.set_cons_succ]
        refine held_two (i := 8) (j := 12) rfl rfl (by kernel_rfl) (fun K hK => ?_) (fun K hK => ?_)
        · go_simp
          refine (moved_n y ys d _ n2 HYS.out HN2.out hd9 HLB.out HSM.out hl2 sb sd _ W2 (M5.out.below hS2)).mono ?_
          rintro e8 W3 ⟨⟨pm3, pmc3, rfl, hm3⟩, hw3⟩
          have hS3 := hS2.trans (hw3.mono hS2.size)
          have HC3 := Lib.hid (HC2.out.of_block (w' := W3) (fun q hq => hw3.block q (own_lt HC2.out.own hq).2))
          have HNV3 : Hid (∀ q, (Value.slice pa2 k2 pc2).ownBlock = some q → q < W2.heap.size) := Lib.hid (fun q hq => (own_lt HC2.out.own hq).2)
          have HY3 : Hid (IsList itemK W3 (fun q => W2.heap.size ≤ q ∧ q < W3.heap.size) 42 (.slice pm3 n2 pmc3) ys) := Lib.hid (hm3.mono (fun q hq hlt => ⟨hq, hlt⟩))
          have hle3 : W3.heap.size ≤ W3.heap.size := Nat.le_refl _
          have hN3 : W2.heap.size ≤ W3.heap.size := hw3.size
          clear hm3 hw3
          refine hK.out _ _ (fun _ => hS3) ?_
          clear hK K
          try simp only [Act.put, List.setIfInBounds_toArray, List.set_cons_zero, List.set_cons_succ]
          obtain ⟨m3, hm83⟩ : ∃ m, W2.heap.size = m := ⟨_, rfl⟩
          obtain ⟨q3, hq83⟩ : ∃ m, W3.heap.size = m := ⟨_, rfl⟩
          rw [hm83, hq83] at HY3
          rw [hm83] at HNV3
          rw [hq83] at hle3
          rw [hm83, hq83] at hN3
          replace hle3 : q3 ≤ W3.heap.size := Nat.le_of_eq hq83.symm
          clear hm83 hq83
          refine held_take [] (i := 9) (v := .slice pm3 n2 pmc3) rfl (by kernel_rfl) (fun _ _ _ h => h) (Or.inl ⟨by rfl, fun w' hS => by have := rules_field0; go_simp⟩) hS3 ?_
          try simp only [Act.put, List.setIfInBounds_toArray, List.set_cons_zero, List.set_cons_succ]
          refine held_two (i := 10) (j := 12) rfl rfl (by kernel_rfl) (fun K hK => ?_) (fun K hK => ?_)
          · rw [if_pos (by kernel_rfl)]
            obtain ⟨dss4, hsc4, _, hal4⟩ := HY3.out
            have hdl4 : dss4.length = n2 := by rw [All2.length hal4]; exact HYL.out
            have hon4 := cells_one hal4
            refine con_appends_con (t := 23) (T := 42) (m := itemK.size) (B := X5.heap.size) Tryd.underlying23 HI.out HZ0.out HZ1.out HZ2.out rfl (by decide) (by decide) (.tmp 92) (.tmp 98) rfl _ ([] ++ css : List (List Value)) dss4 n2 hdl4 rfl HC3.out (.slice pm3 n2 pmc3) rfl hsc4 hon4 (by rw [List.nil_append, HL1.out]; omega) hS3.size ?_
            intro pa4 pc4 W4 hcon4 hgr4 hat4
            generalize ([] ++ css : List (List Value)).length + n2 = k4 at *
            have hS4 := Below.own hS3 hgr4 (fun q hq => (own_lt HC3.out.own hq).1) hS3.size
            have HC4 := Lib.hid hcon4
            have HA4 : Hid (All2 (itemK.is W4 (fun q => m3 ≤ q ∧ q < q3)) dss4 ys) := Lib.hid (All2.imp hal4 fun _ _ h => itemK.moved h (fun q hq hlt => hgr4.block q hlt (fun h => by have := HNV3.out q h.symm; have := hq.1; omega)) (fun _ h _ => h))
            have hle4 : q3 ≤ W4.heap.size := Nat.le_trans hle3 hgr4.size
            clear hcon4 hgr4 hat4
            refine hK.out _ _ (fun _ => hS4) ?_
            clear hK K
            try simp only [Act.put, List.setIfInBounds_toArray, List.set_cons_zero, List.set_cons_succ]
            refine held_take [] (i := 11) (v := .agg #[.slice pa4 k4 pc4]) rfl (by kernel_rfl) (fun _ _ _ h => h) (Or.inl ⟨by rfl, fun w' hS => by go_simp⟩) hS4 ?_
            try simp only [Act.put, List.setIfInBounds_toArray, List.set_cons_zero, List.set_cons_succ]
            refine held_one (i := 12) rfl (by kernel_rfl) (fun K hK => ?_)
            go_simp
            have HZ5 := Lib.hid (Blk.new W4 25 [.slice none 0 0])
            have hS5 := hS4.alloc hS4.size (.cells #[.slice none 0 0] 25)
            have hzb5 := hS4.size
            have HC5 := Lib.hid (HC4.out.of_block (w' := W4.alloc (.cells #[.slice none 0 0] 25)) (fun k hk => Below.heap_alloc _ _ _ (own_lt HC4.out.own hk).2))
            have HNE5 : Hid (∀ k, (Value.slice pa4 k4 pc4).ownBlock = some k → k ≠ W4.heap.size) := Lib.hid (fun k hk => by have := (own_lt HC4.out.own hk).2; omega)
            have HA5 := Lib.hid (All2.imp HA4.out fun _ _ h => itemK.moved h (W' := W4.alloc (.cells #[.slice none 0 0] 25)) (fun q _ hq => Below.heap_alloc _ _ _ hq) (fun _ h _ => h))
            have hz85 : W4.heap.size < m3 ∨ q3 ≤ W4.heap.size := Or.inr hle4
            have hle5 : q3 ≤ (W4.alloc (.cells #[.slice none 0 0] 25)).heap.size := by rw [World.size_alloc]; exact Nat.le_succ_of_le hle4
            refine hK.out _ _ (fun _ => hS5) ?_
            clear hK K
            try simp only [Act.put, List.setIfInBounds_toArray, List.set_cons_zero, List.set_cons_succ]
            have hbs5 : W4.heap.size < (W4.alloc (.cells #[.slice none 0 0] 25)).heap.size := by simp
            generalize W4.alloc (.cells #[.slice none 0 0] 25) = W5 at *
            generalize W4.heap.size = b5 at *
            have hc6 := HZ5.out.cell (i := 0) rfl
            have hf6 := HZ5.out.free 0
            refine held_one (i := 13) rfl (by kernel_rfl) (fun K hK => ?_)
            go_simp
            have hz6 : X5.heap.size ≤ b5 := by omega
            have hS6 : Below X5.heap.size X5 (W5.setCell ⟨b5, 0, none⟩ (.slice pa4 k4 pc4)) := ((Kp.of_below (E := fun _ => False) hS5).setNew b5 0 hz6 (.slice pa4 k4 pc4)).below (Nat.le_refl _) (fun q hq => hq.elim)
            refine hK.out _ _ (fun _ => hS6) ?_
            clear hK K hc6 hf6
            try simp only [Act.put, List.setIfInBounds_toArray, List.set_cons_zero, List.set_cons_succ]
            refine held_done (by kernel_rfl) ?_ _
            refine hMK _ _ (Met.intro (hRJ _ _ ?_))
            (repeat apply Exists.intro)
            refine ⟨?rel6, rfl⟩
            have hcf := HC5.out.of_block (w' := W5.setCell ⟨b5, 0, none⟩ (.slice pa4 k4 pc4)) (fun q hq => Below.heap_setCell _ _ _ _ (HNE5.out q hq))
            refine ⟨b5, _, _, _, rfl, Lib.hid (HZ5.out.set 0 (.slice pa4 k4 pc4)), Lib.hid ⟨_, hcf.base (Nat.zero_le _), fun _ _ => trivial, ?_⟩, Lib.hid hS6⟩
            exact all2_append (All2.imp HALL.out fun _ _ h => itemK.moved h (fun q _ hlt => hS6.block q hlt) (fun _ _ _ => trivial)) (All2.imp HA5.out fun _ _ h => itemK.moved h (fun q hq _ => Below.heap_setCell _ _ _ _ (by have h1 := hq.1; have h2 := hq.2; have h3 := hz85; show q ≠ b5; omega)) (fun _ _ _ => trivial))
          · go_simp
            have HZ7 := Lib.hid (Blk.new W3 25 [.slice none 0 0])
            have hS7 := hS3.alloc hS3.size (.cells #[.slice none 0 0] 25)
            have hzb7 := hS3.size
            have HC7 := Lib.hid (HC3.out.of_block (w' := W3.alloc (.cells #[.slice none 0 0] 25)) (fun k hk => Below.heap_alloc _ _ _ (own_lt HC3.out.own hk).2))
            have HNE7 : Hid (∀ k, (Value.slice pa2 k2 pc2).ownBlock = some k → k ≠ W3.heap.size) := Lib.hid (fun k hk => by have := (own_lt HC3.out.own hk).2; omega)
            have HY7 := Lib.hid (HY3.out.kept (W' := W3.alloc (.cells #[.slice none 0 0] 25)) (fun q _ hq => Below.heap_alloc _ _ _ hq))
            have hz87 : W3.heap.size < m3 ∨ q3 ≤ W3.heap.size := Or.inr hle3
            have hle7 : q3 ≤ (W3.alloc (.cells #[.slice none 0 0] 25)).heap.size := by rw [World.size_alloc]; exact Nat.le_succ_of_le hle3
            refine hK.out _ _ (fun _ => hS7) ?_
            clear hK K
            try simp only [Act.put, List.setIfInBounds_toArray, List.set_cons_zero, List.set_cons_succ]
            have hbs7 : W3.heap.size < (W3.alloc (.cells #[.slice none 0 0] 25)).heap.size := by simp
            generalize W3.alloc (.cells #[.slice none 0 0] 25) = W7 at *
            generalize W3.heap.size = b7 at *
            refine held_one (i := 10) rfl (by kernel_rfl) (fun K hK => ?_)
            rw [if_pos (by kernel_rfl)]
            obtain ⟨dss8, hsc8, _, hal8⟩ := HY7.out
            have hdl8 : dss8.length = n2 := by rw [All2.length hal8]; exact HYL.out
            have hon8 := cells_one hal8
            refine con_appends_con (t := 23) (T := 42) (m := itemK.size) (B := X5.heap.size) Tryd.underlying23 HI.out HZ0.out HZ1.out HZ2.out rfl (by decide) (by decide) (.tmp 92) (.tmp 98) rfl _ ([] ++ css : List (List Value)) dss8 n2 hdl8 rfl HC7.out (.slice pm3 n2 pmc3) rfl hsc8 hon8 (by rw [List.nil_append, HL1.out]; omega) hS7.size ?_
            intro pa8 pc8 W8 hcon8 hgr8 hat8
            generalize ([] ++ css : List (List Value)).length + n2 = k8 at *
            have hS8 := Below.own hS7 hgr8 (fun q hq => (own_lt HC7.out.own hq).1) hS7.size
            have HC8 := Lib.hid hcon8
            have HA8 : Hid (All2 (itemK.is W8 (fun q => m3 ≤ q ∧ q < q3)) dss8 ys) := Lib.hid (All2.imp hal8 fun _ _ h => itemK.moved h (fun q hq hlt => hgr8.block q hlt (fun h => by have := HNV3.out q h.symm; have := hq.1; omega)) (fun _ h _ => h))
            have hle8 : q3 ≤ W8.heap.size := Nat.le_trans hle7 hgr8.size
            have HZ8 : Hid (Blk W8 b7 25 [.slice none 0 0]) := Lib.hid ((hgr8.block b7 HZ7.out.lt (fun h => HNE7.out b7 h.symm rfl)).trans HZ7.out)
            have HNE8 : Hid (∀ q, (Value.slice pa8 k8 pc8).ownBlock = some q → q ≠ b7) := Lib.hid (fun q hq => by
              rcases hat8 with h | h
              · exact HNE7.out q (h ▸ hq)
              · rw [h] at hq
                cases hq
                have := HZ7.out.lt
                omega)
            clear hcon8 hgr8 hat8
            refine hK.out _ _ (fun _ => hS8) ?_
            clear hK K
            try simp only [Act.put, List.setIfInBounds_toArray, List.set_cons_zero, List.set_cons_succ]
            refine held_take [] (i := 11) (v := .agg #[.slice pa8 k8 pc8]) rfl (by kernel_rfl) (fun _ _ _ h => h) (Or.inl ⟨by rfl, fun w' hS => by go_simp⟩) hS8 ?_
            try simp only [Act.put, List.setIfInBounds_toArray, List.set_cons_zero, List.set_cons_succ]
            have hc9 := HZ8.out.cell (i := 0) rfl
            have hf9 := HZ8.out.free 0
            refine held_one (i := 13) rfl (by kernel_rfl) (fun K hK => ?_)
            go_simp
            have hz9 : X5.heap.size ≤ b7 := by omega
            have hS9 : Below X5.heap.size X5 (W8.setCell ⟨b7, 0, none⟩ (.slice pa8 k8 pc8)) := ((Kp.of_below (E := fun _ => False) hS8).setNew b7 0 hz9 (.slice pa8 k8 pc8)).below (Nat.le_refl _) (fun q hq => hq.elim)
            refine hK.out _ _ (fun _ => hS9) ?_
            clear hK K hc9 hf9
            try simp only [Act.put, List.setIfInBounds_toArray, List.set_cons_zero, List.set_cons_succ]
            refine held_done (by kernel_rfl) ?_ _
            refine hMK _ _ (Met.intro (hRJ _ _ ?_))
            (repeat apply Exists.intro)
            refine ⟨?rel9, rfl⟩
            have hcf := HC8.out.of_block (w' := W8.setCell ⟨b7, 0, none⟩ (.slice pa8 k8 pc8)) (fun q hq => Below.heap_setCell _ _ _ _ (HNE8.out q hq))
            refine ⟨b7, _, _, _, rfl, Lib.hid (HZ8.out.set 0 (.slice pa8 k8 pc8)), Lib.hid ⟨_, hcf.base (Nat.zero_le _), fun _ _ => trivial, ?_⟩, Lib.hid hS9⟩
            exact all2_append (All2.imp HALL.out fun _ _ h => itemK.moved h (fun q _ hlt => hS9.block q hlt) (fun _ _ _ => trivial)) (All2.imp HA8.out fun _ _ h => itemK.moved h (fun q hq _ => Below.heap_setCell _ _ _ _ (by have h1 := hq.1; have h2 := hq.2; have h3 := hz87; show q ≠ b7; omega)) (fun _ _ _ => trivial))
        · go_simp
          have HZ10 := Lib.hid (Blk.new W2 25 [.slice none 0 0])
          have hS10 := hS2.alloc hS2.size (.cells #[.slice none 0 0] 25)
          have hzb10 := hS2.size
          have HC10 := Lib.hid (HC2.out.of_block (w' := W2.alloc (.cells #[.slice none 0 0] 25)) (fun k hk => Below.heap_alloc _ _ _ (own_lt HC2.out.own hk).2))
          have HNE10 : Hid (∀ k, (Value.slice pa2 k2 pc2).ownBlock = some k → k ≠ W2.heap.size) := Lib.hid (fun k hk => by have := (own_lt HC2.out.own hk).2; omega)
          refine hK.out _ _ (fun _ => hS10) ?_
          clear hK K
          try simp only [Act.put, List.setIfInBounds_toArray, List.set_cons_zero, List.set_cons_succ]
          have hbs10 : W2.heap.size < (W2.alloc (.cells #[.slice none 0 0] 25)).heap.size := by simp
          generalize W2.alloc (.cells #[.slice none 0 0] 25) = W10 at *
          generalize W2.heap.size = b10 at *
          refine held_one (i := 8) rfl (by kernel_rfl) (fun K hK => ?_)
          go_simp
          refine (moved_n y ys d _ n2 HYS.out HN2.out hd9 HLB.out HSM.out hl2 sb sd _ W10 (M5.out.below hS10)).mono ?_
          rintro e8 W11 ⟨⟨pm11, pmc11, rfl, hm11⟩, hw11⟩
          have hS11 := hS10.trans (hw11.mono hS10.size)
          have HC11 := Lib.hid (HC10.out.of_block (w' := W11) (fun q hq => hw11.block q (own_lt HC10.out.own hq).2))
          have HNV11 : Hid (∀ q, (Value.slice pa2 k2 pc2).ownBlock = some q → q < W10.heap.size) := Lib.hid (fun q hq => (own_lt HC10.out.own hq).2)
          have HY11 : Hid (IsList itemK W11 (fun q => W10.heap.size ≤ q ∧ q < W11.heap.size) 42 (.slice pm11 n2 pmc11) ys) := Lib.hid (hm11.mono (fun q hq hlt => ⟨hq, hlt⟩))
          have hle11 : W11.heap.size ≤ W11.heap.size := Nat.le_refl _
          have hN11 : W10.heap.size ≤ W11.heap.size := hw11.size
          have HZ11 : Hid (Blk W11 b10 25 [.slice none 0 0]) := Lib.hid (HZ10.out.below hw11)
          have hz811 : b10 < W10.heap.size ∨ W11.heap.size ≤ b10 := Or.inl HZ10.out.lt
          clear hm11 hw11
          refine hK.out _ _ (fun _ => hS11) ?_
          clear hK K
          try simp only [Act.put, List.setIfInBounds_toArray, List.set_cons_zero, List.set_cons_succ]
          obtain ⟨m11, hm811⟩ : ∃ m, W10.heap.size = m := ⟨_, rfl⟩
          obtain ⟨q11, hq811⟩ : ∃ m, W11.heap.size = m := ⟨_, rfl⟩
          rw [hm811, hq811] at HY11
          rw [hm811] at HNV11
          rw [hq811] at hle11
          rw [hm811, hq811] at hN11
          rw [hm811, hq811] at hz811
          replace hle11 : q11 ≤ W11.heap.size := Nat.le_of_eq hq811.symm
          clear hm811 hq811
          refine held_take [] (i := 9) (v := .slice pm11 n2 pmc11) rfl (by kernel_rfl) (fun _ _ _ h => h) (Or.inl ⟨by rfl, fun w' hS => by have := rules_field0; go_simp⟩) hS11 ?_
          try simp only [Act.put, List.setIfInBounds_toArray, List.set_cons_zero, List.set_cons_succ]
          refine held_one (i := 10) rfl (by kernel_rfl) (fun K hK => ?_)
          rw [if_pos (by kernel_rfl)]
          obtain ⟨dss12, hsc12, _, hal12⟩ := HY11.out
          have hdl12 : dss12.length = n2 := by rw [All2.length hal12]; exact HYL.out
          have hon12 := cells_one hal12
          refine con_appends_con (t := 23) (T := 42) (m := itemK.size) (B := X5.heap.size) Tryd.underlying23 HI.out HZ0.out HZ1.out HZ2.out rfl (by decide) (by decide) (.tmp 92) (.tmp 98) rfl _ ([] ++ css : List (List Value)) dss12 n2 hdl12 rfl HC11.out (.slice pm11 n2 pmc11) rfl hsc12 hon12 (by rw [List.nil_append, HL1.out]; omega) hS11.size ?_
          intro pa12 pc12 W12 hcon12 hgr12 hat12
          generalize ([] ++ css : List (List Value)).length + n2 = k12 at *
          have hS12 := Below.own hS11 hgr12 (fun q hq => (own_lt HC11.out.own hq).1) hS11.size
          have HC12 := Lib.hid hcon12
          have HA12 : Hid (All2 (itemK.is W12 (fun q => m11 ≤ q ∧ q < q11)) dss12 ys) := Lib.hid (All2.imp hal12 fun _ _ h => itemK.moved h (fun q hq hlt => hgr12.block q hlt (fun h => by have := HNV11.out q h.symm; have := hq.1; omega)) (fun _ h _ => h))
          have hle12 : q11 ≤ W12.heap.size := Nat.le_trans hle11 hgr12.size
          have HZ12 : Hid (Blk W12 b10 25 [.slice none 0 0]) := Lib.hid ((hgr12.block b10 HZ11.out.lt (fun h => HNE10.out b10 h.symm rfl)).trans HZ11.out)
          have HNE12 : Hid (∀ q, (Value.slice pa12 k12 pc12).ownBlock = some q → q ≠ b10) := Lib.hid (fun q hq => by
            rcases hat12 with h | h
            · exact HNE10.out q (h ▸ hq)
            · rw [h] at hq
              cases hq
              have := HZ11.out.lt
              omega)
          clear hcon12 hgr12 hat12
          refine hK.out _ _ (fun _ => hS12) ?_
          clear hK K
          try simp only [Act.put, List.setIfInBounds_toArray, List.set_cons_zero, List.set_cons_succ]
          refine held_take [] (i := 11) (v := .agg #[.slice pa12 k12 pc12]) rfl (by kernel_rfl) (fun _ _ _ h => h) (Or.inl ⟨by rfl, fun w' hS => by go_simp⟩) hS12 ?_
          try simp only [Act.put, List.setIfInBounds_toArray, List.set_cons_zero, List.set_cons_succ]
          have hc13 := HZ12.out.cell (i := 0) rfl
          have hf13 := HZ12.out.free 0
          refine held_one (i := 13) rfl (by kernel_rfl) (fun K hK => ?_)
          go_simp
          have hz13 : X5.heap.size ≤ b10 := by omega
          have hS13 : Below X5.heap.size X5 (W12.setCell ⟨b10, 0, none⟩ (.slice pa12 k12 pc12)) := ((Kp.of_below (E := fun _ => False) hS12).setNew b10 0 hz13 (.slice pa12 k12 pc12)).below (Nat.le_refl _) (fun q hq => hq.elim)
          refine hK.out _ _ (fun _ => hS13) ?_
          clear hK K hc13 hf13
          try simp only [Act.put, List.setIfInBounds_toArray, List.set_cons_zero, List.set_cons_succ]
          refine held_done (by kernel_rfl) ?_ _
          refine hMK _ _ (Met.intro (hRJ _ _ ?_))
          (repeat apply Exists.intro)
          refine ⟨?rel13, rfl⟩
          have hcf := HC12.out.of_block (w' := W12.setCell ⟨b10, 0, none⟩ (.slice pa12 k12 pc12)) (fun q hq => Below.heap_setCell _ _ _ _ (HNE12.out q hq))
          refine ⟨b10, _, _, _, rfl, Lib.hid (HZ12.out.set 0 (.slice pa12 k12 pc12)), Lib.hid ⟨_, hcf.base (Nat.zero_le _), fun _ _ => trivial, ?_⟩, Lib.hid hS13⟩
          exact all2_append (All2.imp HALL.out fun _ _ h => itemK.moved h (fun q _ hlt => hS13.block q hlt) (fun _ _ _ => trivial)) (All2.imp HA12.out fun _ _ h => itemK.moved h (fun q hq _ => Below.heap_setCell _ _ _ _ (by have h1 := hq.1; have h2 := hq.2; have h3 := hz811; show q ≠ b10; omega)) (fun _ _ _ => trivial))
      · go_simp
        have HZ14 := Lib.hid (Blk.new W1 25 [.slice none 0 0])
        have hS14 := hS1.alloc hS1.size (.cells #[.slice none 0 0] 25)
        have hzb14 := hS1.size
        have HC14 := Lib.hid (HC1.out.of_block (w' := W1.alloc (.cells #[.slice none 0 0] 25)) (fun k hk => Below.heap_alloc _ _ _ (own_lt HC1.out.own hk).2))
        have HNE14 : Hid (∀ k, (Value.slice (some ⟨b1, 0, none⟩) 0 0).ownBlock = some k → k ≠ W1.heap.size) := Lib.hid (fun k hk => by have := (own_lt HC1.out.own hk).2; omega)
        refine hK.out _ _ (fun _ => hS14) ?_
        clear hK K
        try simp only [Act.put, List.setIfInBounds_toArray, List.set_cons_zero, List.set_cons_succ]
        have hbs14 : W1.heap.size < (W1.alloc (.cells #[.slice none 0 0] 25)).heap.size := by simp
        generalize W1.alloc (.cells #[.slice none 0 0] 25) = W14 at *
        generalize W1.heap.size = b14 at *
        refine held_one (i := 3) rfl (by kernel_rfl) (fun K hK => ?_)
        rw [if_pos (by kernel_rfl)]
        have hsc15 := HCX.out.of_block (w' := W14) (fun q hq => hS14.block q (own_lt HCX.out.own hq).2)
        refine con_appends_con (t := 23) (T := 42) (m := itemK.size) (B := X5.heap.size) Tryd.underlying23 HI.out HZ0.out HZ1.out HZ2.out rfl (by decide) (by decide) (.tmp 89) (.tmp 91) rfl _ ([] : List (List Value)) css n1 HL1.out rfl HC14.out (.slice sa n1 sc) rfl hsc15 HO1.out (by show 0 + n1 ≤ 1000000; omega) hS14.size ?_
        intro pa15 pc15 W15 hcon15 hgr15 hat15
        generalize ([] : List (List Value)).length + n1 = k15 at *
        have hS15 := Below.own hS14 hgr15 (fun q hq => (own_lt HC14.out.own hq).1) hS14.size
        have HC15 := Lib.hid hcon15
        have HZ15 : Hid (Blk W15 b14 25 [.slice none 0 0]) := Lib.hid ((hgr15.block b14 HZ14.out.lt (fun h => HNE14.out b14 h.symm rfl)).trans HZ14.out)
        have HNE15 : Hid (∀ q, (Value.slice pa15 k15 pc15).ownBlock = some q → q ≠ b14) := Lib.hid (fun q hq => by
          rcases hat15 with h | h
          · exact HNE14.out q (h ▸ hq)
          · rw [h] at hq
            cases hq
            have := HZ14.out.lt
            omega)
        clear hcon15 hgr15 hat15
        refine hK.out _ _ (fun _ => hS15) ?_
        clear hK K
        try simp only [Act.put, List.setIfInBounds_toArray, List.set_cons_zero, List.set_cons_succ]
        refine held_one (i := 8) rfl (by kernel_rfl) (fun K hK => ?_)
        go_simp
        refine (moved_n y ys d _ n2 HYS.out HN2.out hd9 HLB.out HSM.out hl2 sb sd _ W15 (M5.out.below hS15)).mono ?_
        rintro e8 W16 ⟨⟨pm16, pmc16, rfl, hm16⟩, hw16⟩
        have hS16 := hS15.trans (hw16.mono hS15.size)
        have HC16 := Lib.hid (HC15.out.of_block (w' := W16) (fun q hq => hw16.block q (own_lt HC15.out.own hq).2))
        have HNV16 : Hid (∀ q, (Value.slice pa15 k15 pc15).ownBlock = some q → q < W15.heap.size) := Lib.hid (fun q hq => (own_lt HC15.out.own hq).2)
        have HY16 : Hid (IsList itemK W16 (fun q => W15.heap.size ≤ q ∧ q < W16.heap.size) 42 (.slice pm16 n2 pmc16) ys) := Lib.hid (hm16.mono (fun q hq hlt => ⟨hq, hlt⟩))
        have hle16 : W16.heap.size ≤ W16.heap.size := Nat.le_refl _
        have hN16 : W15.heap.size ≤ W16.heap.size := hw16.size
        have HZ16 : Hid (Blk W16 b14 25 [.slice none 0 0]) := Lib.hid (HZ15.out.below hw16)
        have hz816 : b14 < W15.heap.size ∨ W16.heap.size ≤ b14 := Or.inl HZ15.out.lt
        clear hm16 hw16
        refine hK.out _ _ (fun _ => hS16) ?_
        clear hK K
        try simp only [Act.put, List.setIfInBounds_toArray, List.set_cons_zero, List.set_cons_succ]
        obtain ⟨m16, hm816⟩ : ∃ m, W15.heap.size = m := ⟨_, rfl⟩
        obtain ⟨q16, hq816⟩ : ∃ m, W16.heap.size = m := ⟨_, rfl⟩
        rw [hm816, hq816] at HY16
        rw [hm816] at HNV16
        rw [hq816] at hle16
        rw [hm816, hq816] at hN16
        rw [hm816, hq816] at hz816
        replace hle16 : q16 ≤ W16.heap.size := Nat.le_of_eq hq816.symm
        clear hm816 hq816
        refine held_take [] (i := 9) (v := .slice pm16 n2 pmc16) rfl (by kernel_rfl) (fun _ _ _ h => h) (Or.inl ⟨by rfl, fun w' hS => by have := rules_field0; go_simp⟩) hS16 ?_
        try simp only [Act.put, List.setIfInBounds_toArray, List.set_cons_zero, List.set_cons_succ]
        refine held_one (i := 10) rfl (by kernel_rfl) (fun K hK => ?_)
        rw [if_pos (by kernel_rfl)]
        obtain ⟨dss17, hsc17, _, hal17⟩ := HY16.out
        have hdl17 : dss17.length = n2 := by rw [All2.length hal17]; exact HYL.out
        have hon17 := cells_one hal17
        refine con_appends_con (t := 23) (T := 42) (m := itemK.size) (B := X5.heap.size) Tryd.underlying23 HI.out HZ0.out HZ1.out HZ2.out rfl (by decide) (by decide) (.tmp 92) (.tmp 98) rfl _ ([] ++ css : List (List Value)) dss17 n2 hdl17 rfl HC16.out (.slice pm16 n2 pmc16) rfl hsc17 hon17 (by rw [List.nil_append, HL1.out]; omega) hS16.size ?_
        intro pa17 pc17 W17 hcon17 hgr17 hat17
        generalize ([] ++ css : List (List Value)).length + n2 = k17 at *
        have hS17 := Below.own hS16 hgr17 (fun q hq => (own_lt HC16.out.own hq).1) hS16.size
        have HC17 := Lib.hid hcon17
        have HA17 : Hid (All2 (itemK.is W17 (fun q => m16 ≤ q ∧ q < q16)) dss17 ys) := Lib.hid (All2.imp hal17 fun _ _ h => itemK.moved h (fun q hq hlt => hgr17.block q hlt (fun h => by have := HNV16.out q h.symm; have := hq.1; omega)) (fun _ h _ => h))
        have hle17 : q16 ≤ W17.heap.size := Nat.le_trans hle16 hgr17.size
        have HZ17 : Hid (Blk W17 b14 25 [.slice none 0 0]) := Lib.hid ((hgr17.block b14 HZ16.out.lt (fun h => HNE15.out b14 h.symm rfl)).trans HZ16.out)
        have HNE17 : Hid (∀ q, (Value.slice pa17 k17 pc17).ownBlock = some q → q ≠ b14) := Lib.hid (fun q hq => by
          rcases hat17 with h | h
          · exact HNE15.out q (h ▸ hq)
          · rw [h] at hq
            cases hq
            have := HZ16.out.lt
            omega)
        clear hcon17 hgr17 hat17
        refine hK.out _ _ (fun _ => hS17) ?_
        clear hK K
        try simp only [Act.put, List.setIfInBounds_toArray, List.set_cons_zero, List.set_cons_succ]
        refine held_take [] (i := 11) (v := .agg #[.slice pa17 k17 pc17]) rfl (by kernel_rfl) (fun _ _ _ h => h) (Or.inl ⟨by rfl, fun w' hS => by go_simp⟩) hS17 ?_
        try simp only [Act.put, List.setIfInBounds_toArray, List.set_cons_zero, List.set_cons_succ]
        have hc18 := HZ17.out.cell (i := 0) rfl
        have hf18 := HZ17.out.free 0
        refine held_one (i := 13) rfl (by kernel_rfl) (fun K hK => ?_)
        go_simp
        have hz18 : X5.heap.size ≤ b14 := by omega
        have hS18 : Below X5.heap.size X5 (W17.setCell ⟨b14, 0, none⟩ (.slice pa17 k17 pc17)) := ((Kp.of_below (E := fun _ => False) hS17).setNew b14 0 hz18 (.slice pa17 k17 pc17)).below (Nat.le_refl _) (fun q hq => hq.elim)
        refine hK.out _ _ (fun _ => hS18) ?_
        clear hK K hc18 hf18
        try simp only [Act.put, List.setIfInBounds_toArray, List.set_cons_zero, List.set_cons_succ]
        refine held_done (by kernel_rfl) ?_ _
        refine hMK _ _ (Met.intro (hRJ _ _ ?_))
        (repeat apply Exists.intro)
        refine ⟨?rel18, rfl⟩
        have hcf := HC17.out.of_block (w' := W17.setCell ⟨b14, 0, none⟩ (.slice pa17 k17 pc17)) (fun q hq => Below.heap_setCell _ _ _ _ (HNE17.out q hq))
        refine ⟨b14, _, _, _, rfl, Lib.hid (HZ17.out.set 0 (.slice pa17 k17 pc17)), Lib.hid ⟨_, hcf.base (Nat.zero_le _), fun _ _ => trivial, ?_⟩, Lib.hid hS18⟩
        exact all2_append (All2.imp HALL.out fun _ _ h => itemK.moved h (fun q _ hlt => hS18.block q hlt) (fun _ _ _ => trivial)) (All2.imp HA17.out fun _ _ h => itemK.moved h (fun q hq _ => Below.heap_setCell _ _ _ _ (by have h1 := hq.1; have h2 := hq.2; have h3 := hz816; show q ≠ b14; omega)) (fun _ _ _ => trivial))
    · go_simp
      have HZ19 := Lib.hid (Blk.new wd 25 [.slice none 0 0])
      have hS19 := hS0.alloc hS0.size (.cells #[.slice none 0 0] 25)
      have hzb19 := hS0.size
      refine hK.out _ _ (fun _ => hS19) ?_
      clear hK K
      try simp only [Act.put, List.setIfInBounds_toArray, List.set_cons_zero, List.set_cons_succ]
      have hbs19 : wd.heap.size < (wd.alloc (.cells #[.slice none 0 0] 25)).heap.size := by simp
      generalize wd.alloc (.cells #[.slice none 0 0] 25) = W19 at *
      generalize wd.heap.size = b19 at *
      refine held_one (i := 0) rfl (by kernel_rfl) (fun K hK => ?_)
      go_simp
      have HC20 := Lib.hid (show Con (W19.alloc (.cells #[] 42)) X5.heap.size 42 itemK.size (.slice (some ⟨W19.heap.size, 0, none⟩) 0 0) [] from ⟨World.ownsRow_made W19 #[] 0 hS19.size (Nat.zero_le _) rfl, fun cs h => by cases h⟩)
      have hS20 := hS19.alloc hS19.size (.cells #[] 42)
      have HZ20 := Lib.hid (HZ19.out.alloc (.cells #[] 42))
      have hlt20 := HZ19.out.lt
      refine hK.out _ _ (fun _ => hS20) ?_
      clear hK K
      try simp only [Act.put, List.setIfInBounds_toArray, List.set_cons_zero, List.set_cons_succ]
      have hbs20 : W19.heap.size < (W19.alloc (.cells #[] 42)).heap.size := by simp
      generalize W19.alloc (.cells #[] 42) = W20 at *
      generalize W19.heap.size = b20 at *
      have HNE20 : Hid (∀ k, (Value.slice (some ⟨b20, 0, none⟩) 0 0).ownBlock = some k → k ≠ b19) := Lib.hid (fun k hk => by cases hk; show b20 ≠ b19; omega)
      refine held_one (i := 3) rfl (by kernel_rfl) (fun K hK => ?_)
      rw [if_pos (by kernel_rfl)]
      have hsc21 := HCX.out.of_block (w' := W20) (fun q hq => hS20.block q (own_lt HCX.out.own hq).2)
      refine con_appends_con (t := 23) (T := 42) (m := itemK.size) (B := X5.heap.size) Tryd.underlying23 HI.out HZ0.out HZ1.out HZ2.out rfl (by decide) (by decide) (.tmp 89) (.tmp 91) rfl _ ([] : List (List Value)) css n1 HL1.out rfl HC20.out (.slice sa n1 sc) rfl hsc21 HO1.out (by show 0 + n1 ≤ 1000000; omega) hS20.size ?_
      intro pa21 pc21 W21 hcon21 hgr21 hat21
      generalize ([] : List (List Value)).length + n1 = k21 at *
      have hS21 := Below.own hS20 hgr21 (fun q hq => (own_lt HC20.out.own hq).1) hS20.size
      have HC21 := Lib.hid hcon21
      have HZ21 : Hid (Blk W21 b19 25 [.slice none 0 0]) := Lib.hid ((hgr21.block b19 HZ20.out.lt (fun h => HNE20.out b19 h.symm rfl)).trans HZ20.out)
      have HNE21 : Hid (∀ q, (Value.slice pa21 k21 pc21).ownBlock = some q → q ≠ b19) := Lib.hid (fun q hq => by
        rcases hat21 with h | h
        · exact HNE20.out q (h ▸ hq)
        · rw [h] at hq
          cases hq
          have := HZ20.out.lt
          omega)
      clear hcon21 hgr21 hat21
      refine hK.out _ _ (fun _ => hS21) ?_
      clear hK K
      try simp only [Act.put, List.setIfInBounds_toArray, List.set_cons_zero, List.set_cons_succ]
      refine held_one (i := 8) rfl (by kernel_rfl) (fun K hK => ?_)
      go_simp
      refine (moved_n y ys d _ n2 HYS.out HN2.out hd9 HLB.out HSM.out hl2 sb sd _ W21 (M5.out.below hS21)).mono ?_
      rintro e8 W22 ⟨⟨pm22, pmc22, rfl, hm22⟩, hw22⟩
      have hS22 := hS21.trans (hw22.mono hS21.size)
      have HC22 := Lib.hid (HC21.out.of_block (w' := W22) (fun q hq => hw22.block q (own_lt HC21.out.own hq).2))
      have HNV22 : Hid (∀ q, (Value.slice pa21 k21 pc21).ownBlock = some q → q < W21.heap.size) := Lib.hid (fun q hq => (own_lt HC21.out.own hq).2)
      have HY22 : Hid (IsList itemK W22 (fun q => W21.heap.size ≤ q ∧ q < W22.heap.size) 42 (.slice pm22 n2 pmc22) ys) := Lib.hid (hm22.mono (fun q hq hlt => ⟨hq, hlt⟩))
      have hle22 : W22.heap.size ≤ W22.heap.size := Nat.le_refl _
      have hN22 : W21.heap.size ≤ W22.heap.size := hw22.size
      have HZ22 : Hid (Blk W22 b19 25 [.slice none 0 0]) := Lib.hid (HZ21.out.below hw22)
      have hz822 : b19 < W21.heap.size ∨ W22.heap.size ≤ b19 := Or.inl HZ21.out.lt
      clear hm22 hw22
      refine hK.out _ _ (fun _ => hS22) ?_
      clear hK K
      try simp only [Act.put, List.setIfInBounds_toArray, List.set_cons_zero, List.set_cons_succ]
      obtain ⟨m22, hm822⟩ : ∃ m, W21.heap.size = m := ⟨_, rfl⟩
      obtain ⟨q22, hq822⟩ : ∃ m, W22.heap.size = m := ⟨_, rfl⟩
      rw [hm822, hq822] at HY22
      rw [hm822] at HNV22
      rw [hq822] at hle22
      rw [hm822, hq822] at hN22
      rw [hm822, hq822] at hz822
      replace hle22 : q22 ≤ W22.heap.size := Nat.le_of_eq hq822.symm
      clear hm822 hq822
      refine held_take [] (i := 9) (v := .slice pm22 n2 pmc22) rfl (by kernel_rfl) (fun _ _ _ h => h) (Or.inl ⟨by rfl, fun w' hS => by have := rules_field0; go_simp⟩) hS22 ?_
      try simp only [Act.put, List.setIfInBounds_toArray, List.set_cons_zero, List.set_cons_succ]
      refine held_one (i := 10) rfl (by kernel_rfl) (fun K hK => ?_)
      rw [if_pos (by kernel_rfl)]
      obtain ⟨dss23, hsc23, _, hal23⟩ := HY22.out
      have hdl23 : dss23.length = n2 := by rw [All2.length hal23]; exact HYL.out
      have hon23 := cells_one hal23
      refine con_appends_con (t := 23) (T := 42) (m := itemK.size) (B := X5.heap.size) Tryd.underlying23 HI.out HZ0.out HZ1.out HZ2.out rfl (by decide) (by decide) (.tmp 92) (.tmp 98) rfl _ ([] ++ css : List (List Value)) dss23 n2 hdl23 rfl HC22.out (.slice pm22 n2 pmc22) rfl hsc23 hon23 (by rw [List.nil_append, HL1.out]; omega) hS22.size ?_
      intro pa23 pc23 W23 hcon23 hgr23 hat23
      generalize ([] ++ css : List (List Value)).length + n2 = k23 at *
      have hS23 := Below.own hS22 hgr23 (fun q hq => (own_lt HC22.out.own hq).1) hS22.size
      have HC23 := Lib.hid hcon23
      have HA23 : Hid (All2 (itemK.is W23 (fun q => m22 ≤ q ∧ q < q22)) dss23 ys) := Lib.hid (All2.imp hal23 fun _ _ h => itemK.moved h (fun q hq hlt => hgr23.block q hlt (fun h => by have := HNV22.out q h.symm; have := hq.1; omega)) (fun _ h _ => h))
      have hle23 : q22 ≤ W23.heap.size := Nat.le_trans hle22 hgr23.size
      have HZ23 : Hid (Blk W23 b19 25 [.slice none 0 0]) := Lib.hid ((hgr23.block b19 HZ22.out.lt (fun h => HNE21.out b19 h.symm rfl)).trans HZ22.out)
      have HNE23 : Hid (∀ q, (Value.slice pa23 k23 pc23).ownBlock = some q → q ≠ b19) := Lib.hid (fun q hq => by
        rcases hat23 with h | h
        · exact HNE21.out q (h ▸ hq)
        · rw [h] at hq
          cases hq
          have := HZ22.out.lt
          omega)
      clear hcon23 hgr23 hat23
      refine hK.out _ _ (fun _ => hS23) ?_
      clear hK K
      try simp only [Act.put, List.setIfInBounds_toArray, List.set_cons_zero, List.set_cons_succ]
      refine held_take [] (i := 11) (v := .agg #[.slice pa23 k23 pc23]) rfl (by kernel_rfl) (fun _ _ _ h => h) (Or.inl ⟨by rfl, fun w' hS => by go_simp⟩) hS23 ?_
      try simp only [Act.put, List.setIfInBounds_toArray, List.set_cons_zero, List.set_cons_succ]
      have hc24 := HZ23.out.cell (i := 0) rfl
      have hf24 := HZ23.out.free 0
      refine held_one (i := 13) rfl (by kernel_rfl) (fun K hK => ?_)
      go_simp
      have hz24 : X5.heap.size ≤ b19 := by omega
      have hS24 : Below X5.heap.size X5 (W23.setCell ⟨b19, 0, none⟩ (.slice pa23 k23 pc23)) := ((Kp.of_below (E := fun _ => False) hS23).setNew b19 0 hz24 (.slice pa23 k23 pc23)).below (Nat.le_refl _) (fun q hq => hq.elim)
      refine hK.out _ _ (fun _ => hS24) ?_
      clear hK K hc24 hf24
      try simp only [Act.put, List.setIfInBounds_toArray, List.set_cons_zero, List.set_cons_succ]
      refine held_done (by kernel_rfl) ?_ _
      refine hMK _ _ (Met.intro (hRJ _ _ ?_))
      (repeat apply Exists.intro)
      refine ⟨?rel24, rfl⟩
      have hcf := HC23.out.of_block (w' := W23.setCell ⟨b19, 0, none⟩ (.slice pa23 k23 pc23)) (fun q hq => Below.heap_setCell _ _ _ _ (HNE23.out q hq))
      refine ⟨b19, _, _, _, rfl, Lib.hid (HZ23.out.set 0 (.slice pa23 k23 pc23)), Lib.hid ⟨_, hcf.base (Nat.zero_le _), fun _ _ => trivial, ?_⟩, Lib.hid hS24⟩
      exact all2_append (All2.imp HALL.out fun _ _ h => itemK.moved h (fun q _ hlt => hS24.block q hlt) (fun _ _ _ => trivial)) (All2.imp HA23.out fun _ _ h => itemK.moved h (fun q hq _ => Below.heap_setCell _ _ _ _ (by have h1 := hq.1; have h2 := hq.2; have h3 := hz822; show q ≠ b19; omega)) (fun _ _ _ => trivial))
  case rest =>
    obtain ⟨zb, pv, k, pc, rfl, HZB, HIS, HS6⟩ := hcut
    have J6 := Lib.hid (J5.out.below HS6.out); have K6 := Lib.hid (K5.out.below HS6.out); have HS7 := Lib.hid (HS5.out.call HS6.out)
    clear J5 K5 HS5 HS6
    have c5 := J6.out.cell (i := 0) rfl
    have c6 := HZB.out.cell (i := 0) rfl
    go_wp2_with fail
    refine (same_true (x ++ ys) (x ++ ys) rfl _ _ _ _ _ K6.out HIS.out).mono ?_; rintro e w7 ⟨rfl, hb7⟩
    have HS8 := Lib.hid (HS7.out.call hb7); clear hb7
    go_wp2
    go_ret
    exact ⟨rfl, HS8.out⟩
theorem joins_walk_of (hh : HeadC) (a b : ByteArray) (w : World) :
    Calls Tryd.prog 4 #[.string a, .string b] w fun e w' => e = .returned (.bool true) ∧ Below w.heap.size w w' := by
  by_cases hlong : 4000 < a.size ∨ 4000 < b.size
  · exact joins_long hh a b w hlong
  have ha : a.size ≤ 4000 := by omega
  have hb : b.size ≤ 4000 := by omega
  obtain ⟨x, E, O, hp⟩ : ∃ x E O, parseAll a.data.toList = (x, E, O) := ⟨_, _, _, rfl⟩
  obtain ⟨y, F, O2, hq⟩ : ∃ x E O, parseAll b.data.toList = (x, E, O) := ⟨_, _, _, rfl⟩
  by_cases hi : E ≠ 0 ∨ F ≠ 0 ∨ 200 < x.length + y.length
  · exact joins_idle hh a b w ha hb x E O hp y F O2 hq hi
  have hE : E = 0 := by omega
  have hF : F = 0 := by omega
  have hl : x.length + y.length ≤ 200 := by omega
  subst hE; subst hF
  obtain ⟨J, hJ⟩ : ∃ J : ByteArray, a ++ ⟨#[10]⟩ ++ b = J := ⟨_, rfl⟩
  have hjl := join_list a b
  rw [hJ] at hjl
  obtain ⟨ts, G, N, hxJ⟩ : ∃ ts G N, Foyer.Lexer.lexAll J.data.toList = (ts, G, N) := ⟨_, _, _, rfl⟩
  by_cases hG : G = 0
  · subst hG
    have hz : (Foyer.Lexer.lexAll J.data.toList).2.1 = 0 := by rw [hxJ]
    obtain ⟨ts', h1, _⟩ := lex_inv hz
    have hpJ := joins hp hq hl (by rw [← hjl]; exact hz)
    rw [← hjl, size_toList] at hpJ
    exact joins_main hh a b w ha hb x O hp y O2 hq hl J hJ ts' h1 hpJ
  · have hnil : ts = [] := by
      have h := lex_none (l := J.data.toList) (by rw [hxJ]; exact hG)
      rw [hxJ] at h
      exact h
    subst hnil
    exact joins_lex hh a b w ha hb x O hp y O2 hq hl J hJ G N hxJ hG
end Go.Proofs.YtllhonjhjhajjaaDoor
