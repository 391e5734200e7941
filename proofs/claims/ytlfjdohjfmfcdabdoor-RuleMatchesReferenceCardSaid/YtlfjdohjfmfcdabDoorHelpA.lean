/-
  What the law RuleAlternatives wants besides: Lex and Parse under names.
-/
import Derived.Test.YtlfjdohjfmfcdabDoorWalkParse
import Derived.Test.YtlfjdohjfmfcdabDoorEnv
namespace Go.Proofs.YtlfjdohjfmfcdabDoor
open Go.RowKit Go.Sort Go.Shelf Foyer.Rule

/-- The law's examples hold. -/
def HeadC : Prop := ∀ w, Calls Tryd.prog 4 #[] w fun e w' => e = .returned (.bool true) ∧ Below w.heap.size w w'
theorem lex_c (t : ByteArray) (ht : t.size ≤ 1000000) (ts : List TokP) (E : Nat) (O : Int) (h : Foyer.Lexer.lexAll t.data.toList = (ts, E, O)) (w : World) :
    Calls Tryd.prog 9 #[.string t] w fun e w' => ∃ p cap, e = .returned (.tuple #[.slice p ts.length cap, .int .i64 (E : Nat), .int .i64 O]) ∧ RdT w' p ts ∧ ts.length ≤ cap ∧ cap ≤ maxLen ∧ Below w.heap.size w w' := by
  refine (lex_any t ht w).mono ?_
  rintro e w' ⟨p, cap, rfl, hr, hc, hm, hb⟩
  rw [h] at hr hc
  refine ⟨p, cap, by rw [h], hr, hc, hm.1, hb⟩
theorem rule_s (t : ByteArray) (ht : t.size ≤ 1000000) (xs : List ItemP) (E : Nat) (O : Int) (h : parseAll t.data.toList = (xs, E, O)) (w : World) :
    Calls Tryd.prog 5 #[.string t] w fun e w' => ∃ a c, e = .returned (.tuple #[.agg #[.slice a xs.length c], .int .i64 (E : Nat), .int .i64 O]) ∧ IsList itemK w' (fun k => w.heap.size ≤ k) 38 (.slice a xs.length c) xs ∧ Below w.heap.size w w' := by
  refine (rule_c t ht xs E O h w).mono ?_
  rintro e w' ⟨v, rfl, hv, hb⟩
  obtain ⟨a, c, rfl⟩ := hv.len
  exact ⟨a, c, rfl, hv, hb⟩
theorem join_list (a b : ByteArray) : (a ++ ⟨#[10]⟩ ++ b).data.toList = (a.data.toList ++ [10]) ++ b.data.toList := by
  rw [ByteArray.data_append, ByteArray.data_append]; simp
theorem size_toList (t : ByteArray) : t.data.toList.length = t.size := by simp
end Go.Proofs.YtlfjdohjfmfcdabDoor
