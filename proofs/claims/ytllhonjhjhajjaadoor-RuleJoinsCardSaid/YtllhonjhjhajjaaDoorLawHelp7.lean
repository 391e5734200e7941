/-
  What the laws about rules want besides: Lex and Parse under names, and the law's own search for a token.
-/
import Derived.Test.YtllhonjhjhajjaaDoorWalkParse
import Derived.Test.YtllhonjhjhajjaaDoorEnv
namespace Go.Proofs.YtllhonjhjhajjaaDoor
open Go.RowKit Go.Sort Go.Shelf Foyer.Rule

/-- The law's examples hold. -/
def HeadC : Prop := ∀ w, Calls Tryd.prog 9 #[] w fun e w' => e = .returned (.bool true) ∧ Below w.heap.size w w'
theorem lex_c (t : ByteArray) (ht : t.size ≤ 1000000) (ts : List TokP) (E : Nat) (O : Int) (h : Foyer.Lexer.lexAll t.data.toList = (ts, E, O)) (w : World) :
    Calls Tryd.prog 13 #[.string t] w fun e w' => ∃ p cap, e = .returned (.tuple #[.slice p ts.length cap, .int .i64 (E : Nat), .int .i64 O]) ∧ RdT w' p ts ∧ ts.length ≤ cap ∧ cap ≤ maxLen ∧ Below w.heap.size w w' := by
  refine (lex_any t ht w).mono ?_
  rintro e w' ⟨p, cap, rfl, hr, hc, hm, hb⟩
  rw [h] at hr hc
  refine ⟨p, cap, by rw [h], hr, hc, hm.1, hb⟩
theorem rule_s (t : ByteArray) (ht : t.size ≤ 1000000) (xs : List ItemP) (E : Nat) (O : Int) (h : parseAll t.data.toList = (xs, E, O)) (w : World) :
    Calls Tryd.prog 10 #[.string t] w fun e w' => ∃ a c, e = .returned (.tuple #[.agg #[.slice a xs.length c], .int .i64 (E : Nat), .int .i64 O]) ∧ IsList itemK w' (fun k => w.heap.size ≤ k) 42 (.slice a xs.length c) xs ∧ Below w.heap.size w w' := by
  refine (rule_c t ht xs E O h w).mono ?_
  rintro e w' ⟨v, rfl, hv, hb⟩
  obtain ⟨a, c, rfl⟩ := hv.len
  exact ⟨a, c, rfl, hv, hb⟩
theorem join_list (a b : ByteArray) : (a ++ ⟨#[10]⟩ ++ b).data.toList = (a.data.toList ++ [10]) ++ b.data.toList := by
  rw [ByteArray.data_append, ByteArray.data_append]; simp
theorem join_size (a b : ByteArray) : (a ++ ⟨#[10]⟩ ++ b).size = a.size + 1 + b.size := by
  rw [ByteArray.size_append, ByteArray.size_append]; rfl
theorem size_toList (t : ByteArray) : t.data.toList.length = t.size := by simp
/-- The tokens ahead of one stand ahead of it. -/
theorem lx_before : ∀ {pre us : List TokP} {t : TokP} {a : Nat} {l : List UInt8} {e : Option (Nat × Nat)}, Foyer.Lexer.Lx a l (pre ++ t :: us) e → ∀ u ∈ pre, u.pos < t.pos
  | [], _, _, _, _, _, _ => by simp
  | p :: pre, us, t, a, l, e, h => by
    rw [List.cons_append] at h
    cases h with
    | good _ g T rest k v _ _ hg hT hr =>
      intro u hu
      rcases List.mem_cons.1 hu with rfl | hu
      · have h1 := lx_low hr t (by simp)
        have h2 := Foyer.Lexer.isTok_pos hT
        show a + g.length < t.pos
        omega
      · exact lx_before hr u hu
set_option maxRecDepth 100000 in
theorem tokenL_any (pre us : List TokP) (t : TokP) (at_ : Nat) (hat : t.pos = at_) (hpre : ∀ u ∈ pre, u.pos < at_) (p : Option Addr) (n cap : Nat) (hn : (pre ++ t :: us).length = n) (w : World) (h : RdT w p (pre ++ t :: us)) (hc : n ≤ cap) (hm : cap ≤ maxLen) :
    Calls Tryd.prog 17 #[.slice p n cap, .int .i64 (at_ : Nat)] w fun e w' => e = .returned (tkV t) ∧ Below w.heap.size w w' := by
  rcases h with h | ⟨b, off, rfl, hb, ht⟩
  · simp at h
  have hk : Below w.heap.size w (w.alloc (.cells #[.int .i64 0, .string ⟨#[]⟩, .int .i64 0, .int .i64 0] 44)) := (Below.refl _ _).alloc (Nat.le_refl _) _
  have R0 := Lib.hid (Blk.new w 44 [.int .i64 0, .string ⟨#[]⟩, .int .i64 0, .int .i64 0])
  have HT := Lib.hid (fun j u (hj : (pre ++ t :: us)[j]? = some u) => (ht j u hj).kept (E := fun _ => False) (Kp.of_below hk) (fun h => h))
  have HK := Lib.hid hk; have HN := Lib.hid hn; have HP := Lib.hid hpre; have HAT := Lib.hid hat
  have hmn : n ≤ 9223372036854775807 := by unfold maxLen at hm; omega
  have hln : pre.length < n := by rw [← hn]; simp
  clear hk ht hn hpre hat
  go_enter Tryd.func17, Tryd.ntmps17
  go_upto_region 1 with fail
  generalize w.alloc (.cells #[.int .i64 0, .string ⟨#[]⟩, .int .i64 0, .int .i64 0] 44) = W at *
  go_wp2
  go_loopw [5] (fun i wr => ∃ k : Nat, i = .int .i64 k ∧ k ≤ pre.length ∧ wr = W) (fun i _ => n - (intOf i).toNat)
  case atStart => exact ⟨0, rfl, Nat.zero_le _, rfl⟩
  case round =>
    obtain ⟨k, rfl, hk, rfl⟩ := hrel
    have hki : (0 : Int) ≤ k ∧ (k : Int) < n := by omega
    by_cases hk2 : k < pre.length
    · obtain ⟨u, hu⟩ : ∃ u, pre[k]? = some u := ⟨_, List.getElem?_eq_getElem hk2⟩
      have hu2 : (pre ++ t :: us)[k]? = some u := by rw [List.getElem?_append_left hk2]; exact hu
      have c3 := (HT.out k u hu2).pos
      have hne : (((u.pos : Nat) : Int) == ((at_ : Nat) : Int)) = false := by
        have := HP.out u (List.mem_of_getElem? hu)
        simp; omega
      clear hu hu2
      go_wp2
      refine ⟨⟨k + 1, by go_num, by omega, trivial⟩, ?_⟩
      simp [intOf]; omega
    · obtain rfl : k = pre.length := by omega
      have hu2 : (pre ++ t :: us)[pre.length]? = some t := by simp
      obtain ⟨c0, c1, c2, c3⟩ := HT.out _ t hu2
      rw [HAT.out] at c3
      have z0 := R0.out.cell (i := 0) rfl
      have z1 := R0.out.cell (i := 1) rfl
      have z2 := R0.out.cell (i := 2) rfl
      have z3 := R0.out.cell (i := 3) rfl
      have zf := R0.out.free
      clear hu2
      go_wp2
      have r5 := (((R0.out.set 0 (.int .i64 (t.kind : Nat))).set 1 (.string ⟨t.text.toArray⟩)).set 2 (.int .i64 (t.val : Nat))).set 3 (.int .i64 (at_ : Nat))
      refine bodyPost_ret (results_cell_mid rfl _ _ w.heap.size [.int .i64 (t.kind : Nat), .string ⟨t.text.toArray⟩, .int .i64 (t.val : Nat), .int .i64 (at_ : Nat)] _ rfl r5.range Tryd.underlying44 rfl (by kernel_rfl)) rfl ⟨?_, ?_⟩
      · show Ending.returned _ = Ending.returned (tkV t)
        unfold tkV
        rw [HAT.out]
      · exact HK.out.trans (((Kp.setRes _ w.heap.size _ _ _ _).below (B := w.heap.size) HK.out.size (fun k hk => by have : k = w.heap.size := hk; omega)).mono (Nat.le_refl _))
end Go.Proofs.YtllhonjhjhajjaaDoor
