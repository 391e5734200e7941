/-
  The law PlanSorts: its walk.
-/
import Derived.Test.YtkggmehbkefgjaaDoorWalkCount
import Derived.Test.YtkggmehbkefgjaaDoorStep
import Derived.Test.YtkggmehbkefgjaaDoorRefSame6
import Derived.Test.YtkggmehbkefgjaaDoorEnv
import Derived.Deep.AppendLies
import Derived.Lib.QuietBelow
namespace Go.Proofs.YtkggmehbkefgjaaDoor
open Go.RowKit Go.Sort Go.Shelf Foyer.Plan Foyer.Round

set_option maxRecDepth 100000 in
set_option maxHeartbeats 2000000 in
theorem sorts_long (p : Option Addr) (n cap : Nat) (z : Int) (w : World) (h : 30 < n) :
    Calls Tryd.prog 7 #[.slice p n cap, .int .u8 z] w fun e w' => e = .returned (.bool true) ∧ Below w.heap.size w w' := by
  have HS : Hid (Since w w) := Below.refl _ _
  have hd : decide ((30 : Int) < (n : Int)) = true := by simp; omega
  clear h
  go_enter Tryd.func7, Tryd.ntmps7
  go_wp2_with fail
  refine (head_any _).mono ?_; rintro x w1 ⟨rfl, hb1⟩
  have HS1 := Lib.hid (HS.out.call hb1); clear hb1
  go_wp2
  go_ret
  exact ⟨rfl, HS1.out⟩
theorem word_at (k : Nat) (h : k < [Value.string ⟨#[98, 108, 111, 99, 107]⟩, .string ⟨#[97, 114, 101, 97]⟩, .string ⟨#[97, 105, 115, 108, 101]⟩, .string ⟨#[112, 105, 108, 108, 97, 114]⟩, .string ⟨#[100, 111, 111, 114]⟩].length) :
    [Value.string ⟨#[98, 108, 111, 99, 107]⟩, .string ⟨#[97, 114, 101, 97]⟩, .string ⟨#[97, 105, 115, 108, 101]⟩, .string ⟨#[112, 105, 108, 108, 97, 114]⟩, .string ⟨#[100, 111, 111, 114]⟩][k]'h = .string ⟨(sortWords.getD k []).toArray⟩ := by
  match k, h with
  | 0, _ => rfl
  | 1, _ => rfl
  | 2, _ => rfl
  | 3, _ => rfl
  | 4, _ => rfl
theorem str3 (S T : List UInt8) : (⟨S.toArray⟩ : ByteArray) ++ ⟨#[10]⟩ ++ ⟨T.toArray⟩ = ⟨((S ++ [10]) ++ T).toArray⟩ := by
  rw [show (⟨#[10]⟩ : ByteArray) = ⟨([10] : List UInt8).toArray⟩ from rfl, str_append, str_append]
theorem str_end (S : List UInt8) : (⟨S.toArray⟩ : ByteArray) ++ ⟨#[10, 125, 32, 125]⟩ = ⟨(S ++ [10, 125, 32, 125]).toArray⟩ := by
  rw [show (⟨#[10, 125, 32, 125]⟩ : ByteArray) = ⟨([10, 125, 32, 125] : List UInt8).toArray⟩ from rfl, str_append]
theorem take_snoc6 {α : Type} {xs : List α} {k : Nat} {x : α} (h : xs[k]? = some x) : xs.take (k + 1) = xs.take k ++ [x] := by
  rw [List.take_add_one, h]; rfl
theorem filter_step (P : List UInt8 → Bool) (xs : List (List UInt8)) (t : List UInt8) : (xs ++ [t]).filter P = if P t then xs.filter P ++ [t] else xs.filter P := by
  rw [List.filter_append]
  by_cases h : P t = true
  · rw [if_pos h, List.filter_cons_of_pos h, List.filter_nil]
  · rw [if_neg h, List.filter_cons_of_neg h, List.filter_nil, List.append_nil]
theorem filter_step_not (P : List UInt8 → Bool) (xs : List (List UInt8)) (t : List UInt8) : (xs ++ [t]).filter (fun i => !P i) = if P t then xs.filter (fun i => !P i) else xs.filter (fun i => !P i) ++ [t] := by
  rw [List.filter_append]
  by_cases h : P t = true
  · rw [if_pos h, List.filter_cons_of_neg (by simp [h]), List.filter_nil, List.append_nil]
  · rw [if_neg h, List.filter_cons_of_pos (by simp [h]), List.filter_nil]
/-- Two lists that share no memory. -/
def Aloof (u v : Value) : Prop := u.ownBlock = none ∨ u.ownBlock ≠ v.ownBlock
theorem Aloof.symm {u v : Value} (h : Aloof u v) : Aloof v u := by
  unfold Aloof at *
  rcases h with h | h
  · rw [h]; cases v.ownBlock <;> simp
  · exact Or.inr fun e => h e.symm
/-- What is appended; another list is kept. -/
theorem wpList_append_a {ops : Array Oper} {rest : List Oper} {o : Oper} {a : Act} {Q : Exit → Act → World → Prop} (w : World) (hgd : o.guard = none) (s x : Operand)
    (hop : o.op = Op.call { callee := Callee.builtin Builtin.append, args := #[s, x], argTypes := #[60, 60] })
    (B : Nat) (v : Value) (ls : List (List UInt8)) (hs : a.eval s = v) (hown : OwnS w B v ls) (b off c : Nat) (t : List UInt8) (hx : a.eval x = .slice (some ⟨b, off, none⟩) 1 c)
    (hc : w.cell? ⟨b, off, none⟩ = some (.string ⟨t.toArray⟩)) (hlen : ls.length + 1 ≤ 1000000) (hB : B ≤ w.heap.size) (u : Value) (us : List (List UInt8)) (hu : OwnS w B u us) (hap : Aloof u v)
    (hK : ∀ v' w', OwnS w' B v' (ls ++ [t]) → OwnS w' B u us → Aloof u v' → w.heap.size ≤ w'.heap.size → (∀ C wb, C ≤ B → Below C wb w → Below C wb w') → wpList Tryd.prog ops Q rest (a.put o.dst v') w') :
    wpList Tryd.prog ops Q (o :: rest) a w := by
  obtain ⟨i0, hi, hz0, hz1, hz2⟩ := info_parts strInfo
  refine wpList_append_lies w hgd s x 60 hop B 9 i0 (.string ⟨#[]⟩) 1 16 Tryd.underlying60 hi hz0 hz1 hz2 rfl (by decide) v ls.length _ hs hown ⟨b, off, none⟩ 1 c [Value.string ⟨t.toArray⟩] hx rfl ?c1 ?c2 (by decide) ?d3 ?d4 hB _ rfl ?_
  case c1 =>
    intro j y hy
    match j, hy with
    | 0, hy => simp at hy; subst hy; rw [add_plain]; exact hc
  case c2 =>
    intro y hy
    simp at hy; subst hy; rfl
  case d3 => unfold maxLen; omega
  case d4 => omega
  intro g cap w' hown' hg hgv _
  refine hK _ w' (own_cast hown' (by simp) (by simp)) (World.ownsRow.kept hu hg hap) ?_ hg.size fun C wb hC hb => hb.grown hg (Nat.le_trans hC hB) (fun q hq => Nat.le_trans hC (hown.lt q hq).1)
  show u.ownBlock = none ∨ u.ownBlock ≠ some g
  rcases hgv with h | h
  · rw [← h]; exact hap
  · rcases hu' : u.ownBlock with _ | q
    · exact Or.inl rfl
    · refine Or.inr fun e => ?_
      have := (World.ownsRow.lt hu q hu').2
      have e2 : q = g := Option.some.inj e
      omega
/-- How such a list is read. -/
theorem rdS_pos {w : World} {p : Option Addr} {ls : List (List UInt8)} {j : Nat} {t : List UInt8} (h : RdS w p ls) (hj : ls[j]? = some t) : ∃ b off, p = some ⟨b, off, none⟩ ∧ b < w.heap.size ∧ w.cell? ⟨b, off + j, none⟩ = some (.string ⟨t.toArray⟩) := by
  have hl := (List.getElem?_eq_some_iff.1 hj).1
  rcases h with e | ⟨b, off, rfl, hlt, hc⟩
  · rw [e] at hl; simp at hl
  · refine ⟨b, off, rfl, hlt, ?_⟩
    rw [hc j hl, List.getD_eq_getElem?_getD, hj]; rfl
set_option maxRecDepth 100000 in
set_option maxHeartbeats 8000000 in
theorem sorts_main (p : Option Addr) (n cap : Nat) (z : Int) (w : World) (ls : List (List UInt8)) (h : IsStrs w p n ls) (hn : n ≤ 30) (hz : 0 ≤ z ∧ z < 256) :
    Calls Tryd.prog 7 #[.slice p n cap, .int .u8 z] w fun e w' => e = .returned (.bool true) ∧ Below w.heap.size w w' := by
  have HS : Hid (Since w w) := Below.refl _ _
  have hd : decide ((30 : Int) < (n : Int)) = false := by simp; omega
  have HI := Lib.hid h
  obtain ⟨k5, hk, hk5⟩ : ∃ k : Nat, z % 5 = k ∧ k < 5 := ⟨(z % 5).toNat, by omega, by omega⟩
  have hk6 : (k5 : Int) < 5 := by omega
  have hk7 : Int.tmod z 5 = k5 := by rw [Int.tmod_eq_emod_of_nonneg hz.1]; exact hk
  have HK5 := Lib.hid hk5
  clear h
  go_enter Tryd.func7, Tryd.ntmps7
  go_wp2_with fail
  refine (head_any _).mono ?_; rintro x w1 ⟨rfl, hb1⟩
  have HS1 := Lib.hid (HS.out.call hb1); clear hb1
  go_wp2
  simp only [word_at]
  have HS2 : Hid (Since w (w1.alloc (.cells #[Value.string ⟨#[98, 108, 111, 99, 107]⟩, .string ⟨#[97, 114, 101, 97]⟩, .string ⟨#[97, 105, 115, 108, 101]⟩, .string ⟨#[112, 105, 108, 108, 97, 114]⟩, .string ⟨#[100, 111, 111, 114]⟩] 9))) := Lib.hid (HS1.out.alloc _)
  clear hk hk6 hk7 hz HS1 hk5
  generalize w1.alloc (.cells #[Value.string ⟨#[98, 108, 111, 99, 107]⟩, .string ⟨#[97, 114, 101, 97]⟩, .string ⟨#[97, 105, 115, 108, 101]⟩, .string ⟨#[112, 105, 108, 108, 97, 114]⟩, .string ⟨#[100, 111, 111, 114]⟩] 9) = w2 at *
  generalize w1.heap.size = b1 at *
  obtain ⟨wd, hwd⟩ : ∃ wd, sortWords.getD k5 [] = wd := ⟨_, rfl⟩
  rw [hwd]
  have HWD := Lib.hid hwd
  have HN : Hid (ls.length = n) := Lib.hid HI.out.length
  have HEAD : Hid (rows sortHead [] = sortHead) := Lib.hid rfl
  clear hwd
  go_loopw [7, 8, 9, 10] (fun v1 v2 tx i wr => ∃ (k : Nat) (u1 u2 : Value), i = .int .i64 k ∧ u1 = v1 ∧ u2 = v2 ∧ tx = .string ⟨(rows sortHead (ls.take k)).toArray⟩ ∧ k ≤ n ∧ Hid (∃ tls its, Items (ls.take k) tls its) ∧
    Hid (OwnS wr w.heap.size u1 ((ls.take k).filter fun i => fits wd i)) ∧ Hid (OwnS wr w.heap.size u2 ((ls.take k).filter fun i => !fits wd i)) ∧ Hid (Aloof u1 u2) ∧ Hid (Since w wr)) (fun _ _ _ i _ => n - (intOf i).toNat)
  case atStart => exact ⟨0, _, _, rfl, rfl, rfl, rfl, Nat.zero_le _, Lib.hid ⟨[], [], .nil⟩, Lib.hid (ownS_nil _ _), Lib.hid (ownS_nil _ _), Lib.hid (Or.inl rfl), HS2⟩
  case round =>
    obtain ⟨k, u1, u2, rfl, rfl, rfl, rfl, hk, HIT, HO1, HO2, HAP, HB⟩ := hrel
    by_cases hk2 : k < n
    · obtain ⟨t, ht⟩ : ∃ t, ls[k]? = some t := ⟨_, List.getElem?_eq_getElem (by have := HN.out; omega)⟩
      have hti : t.length ≤ maxLen := HI.out.each t (List.mem_of_getElem? ht)
      have HI2 := Lib.hid (HI.out.since HB.out)
      obtain ⟨b, off, rfl, hlt, hc1⟩ := rdS_pos HI2.out.rd ht
      have hki : (0 : Int) ≤ k ∧ (k : Int) < n := by omega
      have htz : (⟨t.toArray⟩ : ByteArray).size = t.length := size_of_list t
      by_cases h200 : 200 < t.length
      · have h2d : decide ((200 : Int) < (t.length : Int)) = true := by simp; omega
        clear HI2 ht hti
        go_wp2
        go_ret
        exact ⟨rfl, HB.out⟩
      · have h2d : decide ((200 : Int) < (t.length : Int)) = false := by simp; omega
        obtain ⟨tl, E, O, hlex⟩ : ∃ a b c, Foyer.Lexer.lexAll t = (a, b, c) := ⟨_, _, _, rfl⟩
        obtain ⟨x, F, Q, hp⟩ : ∃ a b c, parseAll (((sortHead ++ [10]) ++ t) ++ [10, 125, 32, 125]) = (a, b, c) := ⟨_, _, _, rfl⟩
        obtain ⟨J, hJ⟩ : ∃ J : ByteArray, ⟨#[104, 97, 108, 108, 32, 104, 32, 115, 116, 97, 103, 101, 32, 48, 32, 48, 32, 123, 32, 108, 101, 118, 101, 108, 32, 97, 32, 104, 101, 105, 103, 104, 116, 32, 48, 32, 123, 10]⟩ ++ ⟨t.toArray⟩ ++ ⟨#[10, 125, 32, 125]⟩ = J := ⟨_, rfl⟩
        have hjl : J.data.toList = ((sortHead ++ [10]) ++ t) ++ [10, 125, 32, 125] := by rw [← hJ]; simp [sortHead]
        have hjs : J.size ≤ 1000000 := by
          rw [← size_toList, hjl]
          have : sortHead.length = 37 := rfl
          simp only [List.length_append, List.length_cons, List.length_nil]; omega
        have hl200 : t.length ≤ 200 := by omega
        have HL := Lib.hid (fun w => lex_c ⟨t.toArray⟩ (by rw [size_of_list]; omega) tl E O hlex w)
        have HP := Lib.hid (fun w => plan_s J hjs x F Q (by rw [hjl]; exact hp) w)
        have HLEX := Lib.hid hlex; have HPX := Lib.hid hp; have HJ := Lib.hid hJ
        have htl5 : tl.length ≤ 5000 := by have := (Foyer.Lexer.lexAll_bounds t).1; rw [hlex] at this; exact this
        have hs1 : t.length + 38 ≤ 9223372036854775807 := by omega
        have hs2 : 38 + t.length ≤ 9223372036854775807 := by omega
        have hs3 : 38 + t.length + 4 ≤ 9223372036854775807 := by omega
        have HT := Lib.hid ht
        clear hlex hp hJ hjl hjs ht HI2
        go_wp2_with fail
        refine (HL.out _).mono ?_; rintro e w3 ⟨q, cap3, rfl, hr3, _, _, hb3⟩
        have HB3 : Hid (Since w w3) := Lib.hid (HB.out.call hb3)
        have HO13 := Lib.hid (HO1.out.kept hb3); have HO23 := Lib.hid (HO2.out.kept hb3)
        have HR3 := Lib.hid hr3
        have hc3 := (hb3.cell (p := ⟨b, off + k, none⟩) hlt).trans hc1
        have hlt3 : b < w3.heap.size := Nat.lt_of_lt_of_le hlt hb3.size
        clear hb3 hr3 HB HO1 HO2 hc1 hlt HL
        go_wp2_with fail
        rw [HJ.out]
        refine (HP.out _).mono ?_; rintro e w4 ⟨va, vn, vc, rfl, _, hb4⟩
        have HBB := Lib.hid ((hb4.mono (Nat.le_refl _)).alloc hb4.size (.cells #[.string ⟨x.name.toArray⟩, .int .i64 (x.sx : Nat), .int .i64 (x.sy : Nat), .slice va vn vc] 31))
        clear hb4 HP
        go_upto_region 14 with fail
        generalize w4.alloc (.cells #[.string ⟨x.name.toArray⟩, .int .i64 (x.sx : Nat), .int .i64 (x.sy : Nat), .slice va vn vc] 31) = X4 at *
        generalize w4.heap.size = b4 at *
        generalize x.name = xn at *
        generalize x.sx = xx at *
        generalize x.sy = xy at *
        have HB4 : Hid (Since w X4) := Lib.hid (HB3.out.call HBB.out)
        have HO14 := Lib.hid (HO13.out.kept HBB.out); have HO24 := Lib.hid (HO23.out.kept HBB.out)
        have HR4 := Lib.hid (HR3.out.since HBB.out)
        have hc4 := (HBB.out.cell (p := ⟨b, off + k, none⟩) hlt3).trans hc3
        have hlt4 : b < X4.heap.size := Nat.lt_of_lt_of_le hlt3 HBB.out.size
        clear HB3 HO13 HO23 HR3 hc3 hlt3 HBB
        by_cases hE : E = 0
        · have e1 : (((E : Nat) : Int) != 0) = false := by simp [hE]
          by_cases hF : F = 0
          · have e2 : (((F : Nat) : Int) != 0) = false := by simp [hF]
            by_cases h0 : tl.length = 0
            · have e3 : (((tl.length : Nat) : Int) == 0) = true := by simp [h0]
              generalize tl.length = tn at *
              clear HLEX HPX HT
              go_wp2
              go_ret
              exact ⟨rfl, HB4.out⟩
            · have e3 : (((tl.length : Nat) : Int) == 0) = false := by simp; exact fun h => h0 (by rw [h]; rfl)
              go_wp2_with fail
              refine (count_any tl q cap3 _ _ HR4.out htl5).mono ?_; rintro e w5 ⟨rfl, hb5⟩
              have HB5 : Hid (Since w w5) := Lib.hid (HB4.out.call hb5)
              have HO15 := Lib.hid (HO14.out.kept hb5); have HO25 := Lib.hid (HO24.out.kept hb5)
              have HR5 := Lib.hid (HR4.out.since hb5)
              have hc5 := (hb5.cell (p := ⟨b, off + k, none⟩) hlt4).trans hc4
              have hlt5 : b < w5.heap.size := Nat.lt_of_lt_of_le hlt4 hb5.size
              clear hb5 HB4 HO14 HO24 HR4 hc4 hlt4
              by_cases h1 : oneItem 0 tl = true
              · have ec : countOf tl = 1 := by unfold countOf; rw [if_pos h1]
                rw [ec]
                obtain ⟨it, hit⟩ := item_of (i := t) hl200 (by rw [HLEX.out, hE]) (fun h => h0 (by rw [h]; rfl)) h1 (by rw [HPX.out, hF])
                obtain ⟨t0, tr, htl⟩ : ∃ t0 tr, tl = t0 :: tr := by
                  cases tl with
                  | nil => exact absurd rfl h0
                  | cons a r => exact ⟨a, r, rfl⟩
                have hfit : fits wd t = (t0.text == wd) := by unfold fits; rw [HLEX.out, htl]; simp [Bool.beq_eq_decide_eq]
                rcases HR5.out with h | ⟨bq, qo, rfl, hltq, hat⟩
                · rw [h] at htl; cases htl
                have ct := (hat 0 t0 (by rw [htl]; rfl)).text
                obtain ⟨tls, its, his⟩ := HIT.out
                have htake := take_snoc6 HT.out
                have HIN : Hid (∃ tls its, Items (ls.take (k + 1)) tls its) := Lib.hid ⟨tls ++ [tl], its ++ [it], by rw [htake]; exact his.append (.cons hit .nil)⟩
                have hrl := rows_length (ls.take k) sortHead his.len.1
                have hkl : (ls.take k).length ≤ 30 := by rw [List.length_take]; omega
                have hfl : ((ls.take k).filter fun i => fits wd i).length ≤ 30 ∧ ((ls.take k).filter fun i => !fits wd i).length ≤ 30 := ⟨Nat.le_trans (List.length_filter_le _ _) hkl, Nat.le_trans (List.length_filter_le _ _) hkl⟩
                have HFL := Lib.hid hfl
                have hsnoc : rows sortHead (ls.take (k + 1)) = (rows sortHead (ls.take k) ++ [10]) ++ t := by rw [htake, rows_snoc]
                have HSN := Lib.hid hsnoc
                have HF1 : Hid ((ls.take (k + 1)).filter (fun i => fits wd i) = if fits wd t then (ls.take k).filter (fun i => fits wd i) ++ [t] else (ls.take k).filter fun i => fits wd i) := Lib.hid (by rw [htake]; exact filter_step _ _ _)
                have HF2 : Hid ((ls.take (k + 1)).filter (fun i => !fits wd i) = if fits wd t then (ls.take k).filter (fun i => !fits wd i) else (ls.take k).filter (fun i => !fits wd i) ++ [t]) := Lib.hid (by rw [htake]; exact filter_step_not _ _ _)
                have hS0 : sortHead.length = 37 := rfl
                obtain ⟨S, hS⟩ : ∃ S, rows sortHead (ls.take k) = S := ⟨_, rfl⟩
                rw [hS] at hrl HSN ⊢
                have hSl : S.length ≤ 6067 := by omega
                have hsz : (⟨S.toArray⟩ : ByteArray).size = S.length := size_of_list S
                have hq1 : S.length + 1 ≤ 9223372036854775807 := by omega
                have hq2 : S.length + 1 + t.length ≤ 9223372036854775807 := by omega
                have hq3 : (⟨S.toArray⟩ : ByteArray).size + 1 ≤ 9223372036854775807 := by omega
                have hq4 : (⟨S.toArray⟩ ++ ⟨#[10]⟩ : ByteArray).size + (⟨t.toArray⟩ : ByteArray).size ≤ 9223372036854775807 := by rw [ByteArray.size_append]; show _ + 1 + _ ≤ _; omega
                have hi0 : (0 : Int) < tl.length := by omega
                by_cases hfw : fits wd t = true
                · have hw : (t0.text == wd) = true := by rw [← hfit]; exact hfw
                  rw [if_pos hfw] at HF1 HF2
                  generalize t0.text = tt at *
                  clear hat hit his htake hsnoc hfit ec h1 hrl hkl hfl hS hS0
                  go_wp2_with (at_builtin; refine wpList_append_a _ rfl _ _ rfl w.heap.size _ _ rfl (HO15.out.alloc _) w5.heap.size 0 1 t rfl (by simp) ?d1 ?d2 _ _ (HO25.out.alloc _) HAP.out.symm ?_)
                  case d1 => have := HFL.out; omega
                  case d2 => have := HB5.out.size; simp; omega
                  intro v2 w6 hown2 hoth2 hap2 hsz2 hbel2
                  have HBE : Hid (Since w w6) := Lib.hid (hbel2 _ _ (Nat.le_refl _) (HB5.out.alloc _))
                  have HOA := Lib.hid hown2; have HOB := Lib.hid hoth2; have HAA := Lib.hid hap2
                  clear hown2 hoth2 hap2 hsz2 hbel2
                  go_wp2
                  go_roundw
                  case rel => exact ⟨k + 1, _, _, by go_num, rfl, rfl, by rw [HSN.out, ← str3], by omega, HIN, Lib.hid (by rw [HF1.out]; exact HOA.out), Lib.hid (by rw [HF2.out]; exact HOB.out), Lib.hid HAA.out.symm, HBE⟩
                  case measure => simp [intOf]; omega
                · have hw : (t0.text == wd) = false := by rw [← hfit]; exact Bool.eq_false_iff.2 hfw
                  rw [if_neg hfw] at HF1 HF2
                  generalize t0.text = tt at *
                  clear hat hit his htake hsnoc hfit ec h1 hrl hkl hfl hS hS0
                  go_wp2_with (at_builtin; refine wpList_append_a _ rfl _ _ rfl w.heap.size _ _ rfl (HO25.out.alloc _) w5.heap.size 0 1 t rfl (by simp) ?d1 ?d2 _ _ (HO15.out.alloc _) HAP.out ?_)
                  case d1 => have := HFL.out; omega
                  case d2 => have := HB5.out.size; simp; omega
                  intro v2 w6 hown2 hoth2 hap2 hsz2 hbel2
                  have HBE : Hid (Since w w6) := Lib.hid (hbel2 _ _ (Nat.le_refl _) (HB5.out.alloc _))
                  have HOA := Lib.hid hown2; have HOB := Lib.hid hoth2; have HAA := Lib.hid hap2
                  clear hown2 hoth2 hap2 hsz2 hbel2
                  go_wp2
                  go_roundw
                  case rel => exact ⟨k + 1, _, _, by go_num, rfl, rfl, by rw [HSN.out, ← str3], by omega, HIN, Lib.hid (by rw [HF1.out]; exact HOB.out), Lib.hid (by rw [HF2.out]; exact HOA.out), Lib.hid HAA.out, HBE⟩
                  case measure => simp [intOf]; omega
              · have ec : countOf tl = -1 := by unfold countOf; rw [if_neg h1]
                rw [ec]
                clear HLEX HPX HT HR5
                generalize tl.length = tn at *
                go_wp2
                go_ret
                exact ⟨rfl, HB5.out⟩
          · have e2 : (((F : Nat) : Int) != 0) = true := by simp [hF]
            clear HLEX HPX HT HR4
            generalize tl.length = tn at *
            go_wp2
            go_ret
            exact ⟨rfl, HB4.out⟩
        · have e1 : (((E : Nat) : Int) != 0) = true := by simp [hE]
          clear HLEX HPX HT HR4
          generalize tl.length = tn at *
          go_wp2
          go_ret
          exact ⟨rfl, HB4.out⟩
    · obtain rfl : k = n := by omega
      have HTK : Hid (ls.take k = ls) := Lib.hid (List.take_of_length_le (by have := HN.out; omega))
      rw [HTK.out] at HIT HO1 HO2 ⊢
      obtain ⟨p1, c1, rfl, hr1, _⟩ := HO1.out.slice
      obtain ⟨p2, c2, rfl, hr2, _⟩ := HO2.out.slice
      have HR1 := Lib.hid hr1; have HR2 := Lib.hid hr2
      obtain ⟨F1, hF1⟩ : ∃ F1, (ls.filter fun i => fits wd i) = F1 := ⟨_, rfl⟩
      obtain ⟨F2, hF2⟩ : ∃ F2, (ls.filter fun i => !fits wd i) = F2 := ⟨_, rfl⟩
      have HFE1 := Lib.hid hF1; have HFE2 := Lib.hid hF2
      obtain ⟨tls, its, his⟩ := HIT.out
      have HIS := Lib.hid his
      have h200 := his.len.1
      have hf1 : ∀ i ∈ F1, i.length ≤ 200 := fun i hi => h200 i (by rw [← hF1] at hi; exact (List.mem_filter.1 hi).1)
      have hf2 : ∀ i ∈ F2, i.length ≤ 200 := fun i hi => h200 i (by rw [← hF2] at hi; exact (List.mem_filter.1 hi).1)
      rw [hF1] at HR1 ⊢
      rw [hF2] at HR2 ⊢
      have hln1 : F1.length ≤ 30 := by rw [← hF1]; exact Nat.le_trans (List.length_filter_le _ _) (by have := HN.out; omega)
      have hln2 : F2.length ≤ 30 := by rw [← hF2]; exact Nat.le_trans (List.length_filter_le _ _) (by have := HN.out; omega)
      have hS0 : sortHead.length = 37 := rfl
      have HZA : Hid (∀ j, (rows sortHead (F1.take j)).length ≤ 6067) := Lib.hid fun j => by
        have h1 := rows_length (F1.take j) sortHead (fun i hi => hf1 i (List.mem_of_mem_take hi))
        have h2 : (F1.take j).length ≤ 30 := by rw [List.length_take]; omega
        omega
      have HZB : Hid (∀ j, (rows (rows sortHead F1) (F2.take j)).length ≤ 12097) := Lib.hid fun j => by
        have h1 := rows_length (F2.take j) (rows sortHead F1) (fun i hi => hf2 i (List.mem_of_mem_take hi))
        have h2 : (F2.take j).length ≤ 30 := by rw [List.length_take]; omega
        have h3 := rows_length F1 sortHead hf1
        omega
      have HZC : Hid ((rows sortHead ls).length ≤ 6067) := Lib.hid (by
        have h1 := rows_length ls sortHead h200
        have h2 := HN.out
        omega)
      have HB1F := Lib.hid hf1; have HB2F := Lib.hid hf2
      obtain ⟨n1, hn1⟩ : ∃ n1, F1.length = n1 := ⟨_, rfl⟩
      obtain ⟨n2, hn2⟩ : ∃ n2, F2.length = n2 := ⟨_, rfl⟩
      rw [hn1] at hln1 ⊢
      rw [hn2] at hln2 ⊢
      have HN1 := Lib.hid hn1; have HN2 := Lib.hid hn2
      clear hr1 hr2 hF1 hF2 his h200 hf1 hf2 HIT HO1 HO2 HAP hn1 hn2 HS2
      obtain ⟨wo, rfl⟩ : ∃ wo : World, wo = wr := ⟨_, rfl⟩
      obtain ⟨A0, hA0⟩ : ∃ A0, rows sortHead ls = A0 := ⟨_, rfl⟩
      rw [hA0] at HZC ⊢
      have HA0 := Lib.hid hA0
      clear hA0
      have HR0 : Hid (Below wo.heap.size wo wo) := Lib.hid (Below.refl _ _)
      go_wp2
      go_loopw [17, 18] (fun tx i wr => ∃ j : Nat, i = .int .i64 j ∧ j ≤ n1 ∧ tx = .string ⟨(rows sortHead (F1.take j)).toArray⟩ ∧ Hid (Below wo.heap.size wo wr)) (fun _ i _ => n1 - (intOf i).toNat)
      case atStart => exact ⟨0, rfl, Nat.zero_le _, rfl, HR0⟩
      case round =>
        obtain ⟨j, rfl, hj, rfl, HBJ⟩ := hrel
        by_cases hj2 : j < n1
        · obtain ⟨t, ht⟩ : ∃ t, F1[j]? = some t := ⟨_, List.getElem?_eq_getElem (by have := HN1.out; omega)⟩
          have hrr := HR1.out.below (Nat.le_refl _) HBJ.out
          obtain ⟨b, off, rfl, hlt, hc1⟩ := rdS_pos hrr ht
          have htl := HB1F.out t (List.mem_of_getElem? ht)
          have hsnoc : rows sortHead (F1.take (j + 1)) = (rows sortHead (F1.take j) ++ [10]) ++ t := by rw [take_snoc6 ht, rows_snoc]
          have HSN := Lib.hid hsnoc
          have hSl := HZA.out j
          obtain ⟨S, hS⟩ : ∃ S, rows sortHead (F1.take j) = S := ⟨_, rfl⟩
          rw [hS] at hSl HSN ⊢
          have hsz : (⟨S.toArray⟩ : ByteArray).size = S.length := size_of_list S
          have htz : (⟨t.toArray⟩ : ByteArray).size = t.length := size_of_list t
          have hq1 : S.length + 1 ≤ 9223372036854775807 := by omega
          have hq2 : S.length + 1 + t.length ≤ 9223372036854775807 := by omega
          have hq3 : (⟨S.toArray⟩ : ByteArray).size + 1 ≤ 9223372036854775807 := by omega
          have hq4 : (⟨S.toArray⟩ ++ ⟨#[10]⟩ : ByteArray).size + (⟨t.toArray⟩ : ByteArray).size ≤ 9223372036854775807 := by rw [ByteArray.size_append]; show _ + 1 + _ ≤ _; omega
          have hki : (0 : Int) ≤ j ∧ (j : Int) < n1 := by omega
          clear hrr ht hsnoc hS
          go_wp2
          go_roundw
          case rel => exact ⟨j + 1, by go_num, by omega, by rw [HSN.out, ← str3], HBJ⟩
          case measure => simp [intOf]; omega
        · obtain rfl : j = n1 := by omega
          have HTK1 : Hid (F1.take j = F1) := Lib.hid (List.take_of_length_le (by have := HN1.out; omega))
          rw [HTK1.out]
          have HR22 := Lib.hid (HR2.out.below (Nat.le_refl _) HBJ.out)
          have HBW : Hid (Since w wr) := Lib.hid (HB.out.call HBJ.out)
          obtain ⟨T0, hT0⟩ : ∃ T0, rows sortHead F1 = T0 := ⟨_, rfl⟩
          rw [hT0] at HZB ⊢
          have HT0 := Lib.hid hT0
          clear HBJ HR2 HR1 HZA HB1F hT0 HB HR0
          obtain ⟨wp, rfl⟩ : ∃ wp : World, wp = wr := ⟨_, rfl⟩
          have HR0 : Hid (Below wp.heap.size wp wp) := Lib.hid (Below.refl _ _)
          have HE0 : Hid (rows T0 [] = T0) := Lib.hid rfl
          go_wp2
          go_loopw [17, 19] (fun tx i wr => ∃ m : Nat, i = .int .i64 m ∧ m ≤ n2 ∧ tx = .string ⟨(rows T0 (F2.take m)).toArray⟩ ∧ Hid (Below wp.heap.size wp wr)) (fun _ i _ => n2 - (intOf i).toNat)
          case atStart => exact ⟨0, rfl, Nat.zero_le _, rfl, HR0⟩
          case round =>
            obtain ⟨m, rfl, hm, rfl, HBJ⟩ := hrel
            by_cases hm2 : m < n2
            · obtain ⟨t, ht⟩ : ∃ t, F2[m]? = some t := ⟨_, List.getElem?_eq_getElem (by have := HN2.out; omega)⟩
              have hrr := HR22.out.below (Nat.le_refl _) HBJ.out
              obtain ⟨b, off, rfl, hlt, hc1⟩ := rdS_pos hrr ht
              have htl := HB2F.out t (List.mem_of_getElem? ht)
              have hsnoc : rows T0 (F2.take (m + 1)) = (rows T0 (F2.take m) ++ [10]) ++ t := by rw [take_snoc6 ht, rows_snoc]
              have HSN := Lib.hid hsnoc
              have hSl := HZB.out m
              obtain ⟨S, hS⟩ : ∃ S, rows T0 (F2.take m) = S := ⟨_, rfl⟩
              rw [hS] at hSl HSN ⊢
              have hsz : (⟨S.toArray⟩ : ByteArray).size = S.length := size_of_list S
              have htz : (⟨t.toArray⟩ : ByteArray).size = t.length := size_of_list t
              have hq1 : S.length + 1 ≤ 9223372036854775807 := by omega
              have hq2 : S.length + 1 + t.length ≤ 9223372036854775807 := by omega
              have hq3 : (⟨S.toArray⟩ : ByteArray).size + 1 ≤ 9223372036854775807 := by omega
              have hq4 : (⟨S.toArray⟩ ++ ⟨#[10]⟩ : ByteArray).size + (⟨t.toArray⟩ : ByteArray).size ≤ 9223372036854775807 := by rw [ByteArray.size_append]; show _ + 1 + _ ≤ _; omega
              have hki : (0 : Int) ≤ m ∧ (m : Int) < n2 := by omega
              clear hrr ht hsnoc hS
              go_wp2
              go_roundw
              case rel => exact ⟨m + 1, by go_num, by omega, by rw [HSN.out, ← str3], HBJ⟩
              case measure => simp [intOf]; omega
            · obtain rfl : m = n2 := by omega
              have HTK2 : Hid (F2.take m = F2) := Lib.hid (List.take_of_length_le (by have := HN2.out; omega))
              have hZ := HZB.out m
              rw [HTK2.out] at hZ ⊢
              obtain ⟨x, y, E, O, Q, hx, hy, hxy⟩ := sorts HK5.out (by rw [HN.out]; exact hn) HIS.out
              rw [HWD.out] at hy
              rw [HFE1.out, HFE2.out, HT0.out] at hy
              rw [HA0.out] at hx
              obtain ⟨T1, hT1⟩ : ∃ T1, rows T0 F2 = T1 := ⟨_, rfl⟩
              rw [hT1] at hy hZ ⊢
              obtain ⟨nm, sx, sy, xs⟩ := x
              obtain ⟨nm', sx', sy', ys⟩ := y
              simp only [HallP.bare, HallP.mk.injEq] at hxy
              obtain ⟨rfl, rfl, rfl, hbare⟩ := hxy
              have hAl := HZC.out
              have HPA := Lib.hid (fun w => plan_s ⟨(A0 ++ [10, 125, 32, 125]).toArray⟩ (by rw [size_of_list]; simp only [List.length_append, List.length_cons, List.length_nil]; omega) _ E O hx w)
              have HPB := Lib.hid (fun w => plan_s ⟨(T1 ++ [10, 125, 32, 125]).toArray⟩ (by rw [size_of_list]; simp only [List.length_append, List.length_cons, List.length_nil]; omega) _ E Q hy w)
              have HBARE := Lib.hid hbare
              have hBF : Hid (Since w wr) := Lib.hid (HBW.out.call HBJ.out)
              have ha1 : (⟨A0.toArray⟩ : ByteArray).size = A0.length := size_of_list A0
              have ha2 : (⟨T1.toArray⟩ : ByteArray).size = T1.length := size_of_list T1
              have hq1 : A0.length + 4 ≤ 9223372036854775807 := by omega
              have hq2 : T1.length + 4 ≤ 9223372036854775807 := by omega
              have hq3 : (⟨A0.toArray⟩ : ByteArray).size + 4 ≤ 9223372036854775807 := by omega
              have hq4 : (⟨T1.toArray⟩ : ByteArray).size + 4 ≤ 9223372036854775807 := by omega
              have hee : (((E : Nat) : Int) == ((E : Nat) : Int)) = true := by simp
              clear hx hy hbare hT1 HBJ HBW HR0 HR22 HB2F HZB HIS HFE1 HFE2 HTK1 HTK2 HTK HE0 hZ hAl
              go_wp2_with fail
              rw [str_end]
              refine (HPA.out _).mono ?_; rintro e w5 ⟨v1, v2, v3, rfl, hl, hb5⟩
              have HS5 := Lib.hid ((hBF.out.call hb5).alloc (.cells #[.string ⟨nm.toArray⟩, .int .i64 (sx : Nat), .int .i64 (sy : Nat), .slice v1 v2 v3] 31))
              have HL5 := Lib.hid (hl.below ((Below.refl w5.heap.size w5).alloc (Nat.le_refl _) (.cells #[.string ⟨nm.toArray⟩, .int .i64 (sx : Nat), .int .i64 (sy : Nat), .slice v1 v2 v3] 31)))
              have HV5 := Lib.hid (Blk.new w5 31 [.string ⟨nm.toArray⟩, .int .i64 (sx : Nat), .int .i64 (sy : Nat), .slice v1 v2 v3])
              clear hb5 hl hBF
              go_upto_region 30 with fail
              generalize w5.alloc (.cells #[.string ⟨nm.toArray⟩, .int .i64 (sx : Nat), .int .i64 (sy : Nat), .slice v1 v2 v3] 31) = X5 at *
              generalize w5.heap.size = b5 at *
              go_wp2_with fail
              rw [str_end]
              refine (HPB.out _).mono ?_; rintro e w6 ⟨s1, s2, s3, rfl, hl6, hb6⟩
              have HBA := Lib.hid ((hb6.mono (Nat.le_refl _)).alloc hb6.size (.cells #[.string ⟨nm.toArray⟩, .int .i64 (sx : Nat), .int .i64 (sy : Nat), .slice s1 s2 s3] 31))
              have HS6 := Lib.hid (HS5.out.call HBA.out)
              have HL6 := Lib.hid (HL5.out.below HBA.out); have HV6 := Lib.hid (HV5.out.below HBA.out)
              have HM6 := Lib.hid (hl6.below ((Below.refl w6.heap.size w6).alloc (Nat.le_refl _) (.cells #[.string ⟨nm.toArray⟩, .int .i64 (sx : Nat), .int .i64 (sy : Nat), .slice s1 s2 s3] 31)))
              have HU6 := Lib.hid (Blk.new w6 31 [.string ⟨nm.toArray⟩, .int .i64 (sx : Nat), .int .i64 (sy : Nat), .slice s1 s2 s3])
              clear hb6 hl6 HL5 HV5
              go_upto_region 31 with fail
              generalize w6.alloc (.cells #[.string ⟨nm.toArray⟩, .int .i64 (sx : Nat), .int .i64 (sy : Nat), .slice s1 s2 s3] 31) = X6 at *
              generalize w6.heap.size = b6 at *
              have y0 := HV6.out.cell (i := 0) rfl
              have y1 := HV6.out.cell (i := 1) rfl
              have y2 := HV6.out.cell (i := 2) rfl
              have y3 := HV6.out.cell (i := 3) rfl
              have z0 := HU6.out.cell (i := 0) rfl
              have z1 := HU6.out.cell (i := 1) rfl
              have z2 := HU6.out.cell (i := 2) rfl
              have z3 := HU6.out.cell (i := 3) rfl
              go_wp2_with fail
              refine (same_false nm sx sy xs ys HBARE.out _ _ _ _ _ HL6.out HM6.out).mono ?_; rintro e w7 ⟨rfl, hb7⟩
              have HS7 := Lib.hid (HS6.out.call hb7)
              clear hb7 y0 y1 y2 y3 z0 z1 z2 z3
              go_wp2
              go_ret
              exact ⟨rfl, HS7.out⟩
theorem sorts_walk (p : Option Addr) (n cap : Nat) (ls : List (List UInt8)) (z : Int) (w : World) (h : IsStrs w p n ls) (hz : (Lit.int .u8 z).wf = true) (_ : Env w) :
    Calls Tryd.prog 7 #[.slice p n cap, .int .u8 z] w fun e w' => e = .returned (.bool true) ∧ Below w.heap.size w w' := by
  by_cases h30 : 30 < n
  · exact sorts_long p n cap z w h30
  · exact sorts_main p n cap z w ls h (by omega) (u8_bounds hz)
end Go.Proofs.YtkggmehbkefgjaaDoor
