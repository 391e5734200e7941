/-
  The walk of the root of a list.
-/
import Derived.Test.YtkjgdgocjnocaaaDoorWalkLevels
namespace Go.Proofs.YtkjgdgocjnocaaaDoor
open Go.RowKit Go.Sort Go.Shelf Foyer.Digest Foyer.Tree Foyer.Round Foyer.Hands
attribute [local go_sem] Oper.semAt_some

/-- What the root's variable holds behind k rounds. -/
def rootT (l : List (List UInt8)) : Nat → List UInt8
  | 0 => listSum [sNone]
  | k + 1 => (lvl l k).getD 0 []
theorem rootT_done {l : List (List UInt8)} {xs : List Lev} (h : LevS l xs) : rootT l xs.length = root l := by
  rcases h with ⟨rfl, rfl⟩ | ⟨k, hx, hk, h1⟩
  · rfl
  · rw [hx]
    have hne : l ≠ [] := fun e => by subst e; rw [lvl_length] at h1; have : sz 0 k = 0 := by
                                       clear h1 hx hk
                                       induction k with
                                       | zero => rfl
                                       | succ k ih => rw [sz, ih]
                                     simp [this] at h1
    rw [root_at hne hk (by omega)]; rfl
/-- The first one of an own list. -/
theorem OwnS.at0 {W : World} {B g n cap : Nat} {ls : List (List UInt8)} (h : OwnS W B (.slice (some ⟨g, 0, none⟩) n cap) ls) (h1 : 1 ≤ ls.length) : W.cell? ⟨g, 0, none⟩ = some (.string ⟨(ls.getD 0 []).toArray⟩) := by
  obtain ⟨g', c', e, _, _, _, _, hr⟩ := h.form h1
  simp only [Value.slice.injEq, Option.some.injEq, Addr.mk.injEq, and_true] at e
  obtain ⟨rfl, _, _⟩ := e
  exact rdS_at' hr 0 h1
/-- An owned row over a store elsewhere. -/
theorem OwnS.away {W : World} {B b : Nat} {v : Value} {ls : List (List UInt8)} (h : OwnS W B v ls) (hb : v.ownBlock ≠ some b) (u : Value) : OwnS (W.setCell ⟨b, 0, none⟩ u) B v ls := World.ownsRow.kept h (grownBy_setCell' W b u) (.inr hb)

set_option maxRecDepth 100000 in
set_option maxHeartbeats 1000000 in
theorem root_any (l : List (List UInt8)) (p : Option Addr) (n cap : Nat) (w : World) (hr : RdS w p l) (hn : l.length = n) (hl : n ≤ 100000) (ht : ∀ t ∈ l, t.length ≤ 1000000) (hE : Env w) :
    Calls Tryd.prog 13 #[.slice p n cap] w fun e w' => e = .returned (.string ⟨(root l).toArray⟩) ∧ Below w.heap.size w w' := by
  refine (callsIn_wide (n := 3)).1 ?_
  refine callsIn_of_wp_marks Tryd.func13 rfl trivial ?_ rfl
  simp only [Tryd.ntmps13, List.size_toArray, List.length_cons, List.length_nil, Nat.reduceAdd, Nat.reduceSub, Array.replicate_succ, Array.replicate_zero, List.push_toArray, List.append_toArray, List.nil_append, List.cons_append]
  have HE := Lib.hid hE; have HR := Lib.hid hr
  have HS : Hid (Since w w) := Below.refl _ _
  clear hE hr
  gi_wp2_with (first
    | (refine ⟨trivial, ?_⟩; gi_at_call 26; refine (callsIn_wide.2 (digestOf_any [sNone] _ 1 rfl rfl _ _ _ (rd_one w sNone 9) (by decide) (fun t ht => by simp only [List.mem_singleton] at ht; subst ht; decide) (HE.out.below (HS.out.alloc _)))).mono ?_; rintro e W1 ⟨rfl, hb1⟩)
    | (refine ⟨trivial, ?_⟩; gi_at_call 22; refine (callsIn_wide.2 (levels_any _ _ _ _)).mono ?_; rintro e W2 ⟨rfl, rfl⟩))
  have hsw : Since w W1 := (HS.out.alloc _).call hb1
  have bX0 := ((Boxed.new W1 9 (.string ⟨(rootT l 0).toArray⟩)).alloc (.cells #[.slice p n cap] 22))
  have bL0 := Boxed.new (W1.alloc (.cells #[.string ⟨(rootT l 0).toArray⟩] 9)) 22 (.slice p n cap)
  have hB0 : Below w.heap.size w ((W1.alloc (.cells #[.string ⟨(rootT l 0).toArray⟩] 9)).alloc (.cells #[.slice p n cap] 22)) := (hsw.alloc _).alloc _
  have hsz : ((W1.alloc (.cells #[.string ⟨(rootT l 0).toArray⟩] 9)).alloc (.cells #[.slice p n cap] 22)).heap.size = W1.heap.size + 2 := by simp
  have hw1 := hsw.size
  rw [World.size_alloc] at bL0
  rw [show listSum [sNone] = rootT l 0 from rfl]
  generalize (W1.alloc (.cells #[.string ⟨(rootT l 0).toArray⟩] 9)).alloc (.cells #[.slice p n cap] 22) = W0 at *
  clear hb1 hsw
  refine wpIn_rangeFunc_hands (by omega) (gf := 39) (lb := #[.pointer (some ⟨W1.heap.size + 1, 0, none⟩)]) rfl (enters_of Tryd.func39 (by kernel_rfl) rfl)
    (each_hands l p n cap (W1.heap.size + 1) hn hl ht W0 bL0.cell (HR.out.below (Nat.le_refl _) hB0) w HE.out hB0) (Below.refl _ _) (fun _ => rfl) (levG_own l w _ hB0.size)
    (fun H pre W => (Boxed W W1.heap.size 9 (.string ⟨(rootT l pre.length).toArray⟩) ∧ W1.heap.size < H) ∧ Below w.heap.size w W)
    (fun H => OwnFrom.and (OwnFrom.and (Own.from (boxed_own W1.heap.size 9 (fun (pre : List Lev) => .string ⟨(rootT l pre.length).toArray⟩)) _) (ownFrom_pure _ (fun _ => W1.heap.size < H))) (ownFrom_below (Nat.le_refl _) hB0.size))
    (fun H hH => ⟨⟨bX0, by omega⟩, hB0⟩)
    (fun x => { tmps := #[.slice p n cap, undef, .string ⟨#[]⟩, .pointer (some ⟨W1.heap.size, 0, none⟩), levV x, .slice (some ⟨w.heap.size, 0, none⟩) 1 1, .string ⟨(rootT l 0).toArray⟩, .slice p n cap, .func (.func 39) #[] #[.pointer (some ⟨W1.heap.size + 1, 0, none⟩)], levV x, undef, undef, undef, undef], defers := [] }) ?assign ?body ?done
  case assign =>
    intro y x W K hK
    gi_wp2
    exact hK
  case body =>
    rintro y pre ⟨g, m, c⟩ H W ⟨⟨bX, hbH⟩, hB⟩ hH hfr ⟨_, ⟨hm, hm1⟩, hO⟩ hlt
    dsimp only [levV] at hm hm1 hO
    have hx0 := hO.at0 (by omega)
    have hnext : rootT l (pre ++ [((g, m, c) : Lev)]).length = (lvl l pre.length).getD 0 [] := by rw [List.length_append]; rfl
    have hgb : W1.heap.size < g := Nat.lt_of_lt_of_le hbH hfr
    have hc := bX.cell
    have hf := bX.frozen
    have HNX := Lib.hid hnext; have HO := Lib.hid hO; have HB := Lib.hid hB; have HX := Lib.hid bX; have HM := Lib.hid hm
    clear hnext hO hB bX hm bX0 bL0 hB0 ht hfr
    generalize (lvl l pre.length).getD 0 [] = t at *
    gi_wp2
    refine ⟨KeepsOthers.setCell _ _ _, ⟨H, by simpa using hH, ⟨by rw [HNX.out]; exact HX.out.set _, hbH⟩, HB.out.setCell (p := ⟨W1.heap.size, 0, none⟩) hw1 _⟩, HB.out.setCell (p := ⟨W1.heap.size, 0, none⟩) hw1 _, ⟨HM.out, hm1⟩, HO.out.away (by simp [Value.ownBlock]; omega) _⟩
  case done =>
    rintro D xs H W hD hS hH ⟨⟨bX, _⟩, hB⟩ hK
    have hroot := rootT_done hS
    rw [hroot] at bX
    have hc := bX.cell
    have HB := Lib.hid hB; have HK := Lib.hid hK
    clear hB hK bX0 bL0 hB0 hS hroot ht
    gi_wp2
    refine ⟨by simp, .inl ⟨_, _, rfl, run_takeDeferred HK.out, ?_⟩⟩
    exact ⟨_, results_tmp rfl _ _ _, rfl, HB.out.trans (belowK_b (w := w) (Nat.le_refl _) W D _ _ (by omega) HK.out rfl rfl)⟩
end Go.Proofs.YtkjgdgocjnocaaaDoor
