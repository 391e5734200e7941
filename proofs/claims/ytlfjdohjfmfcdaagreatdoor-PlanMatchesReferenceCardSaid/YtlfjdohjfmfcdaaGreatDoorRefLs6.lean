/-
  Lists that the document's own reader builds.
-/
import Derived.Test.YtlfjdohjfmfcdaaGreatDoorRefTk6
import Derived.Test.YtlfjdohjfmfcdaaGreatDoorKinds
namespace Go.Proofs.YtlfjdohjfmfcdaaGreatDoor
open Go.RowKit Go.Sort Foyer.Plan

def lenOf6 : Value → Nat
  | .slice _ n _ => n
  | _ => 0
theorem nil_is6 {α : Type} (K : Kind α) (W : World) (F : Nat → Prop) (T : TypeId) : IsList K W F T (.slice none 0 0) [] := ⟨[], con_nil _ _ _ _, (fun q h => by cases h), .nil⟩
theorem Building.len6 {α : Type} {K : Kind α} {W : World} {F : Nat → Prop} {B : Nat} {T : TypeId} {v : Value} {xs : List α} (h : Building K W F B T v xs) : ∃ a cap, v = .slice a xs.length cap := by
  obtain ⟨css, h1, h3⟩ := h
  have hl := All2.length h3
  rcases h1.form with ⟨rfl, hn⟩ | ⟨g, cap, cur, rfl, _⟩
  · rw [hn] at hl; exact ⟨none, 0, by rw [← hl]; rfl⟩
  · exact ⟨_, cap, by rw [hl]⟩
theorem IsList.len6 {α : Type} {K : Kind α} {W : World} {F : Nat → Prop} {T : TypeId} {v : Value} {xs : List α} (h : IsList K W F T v xs) : ∃ a cap, v = .slice a xs.length cap := by
  obtain ⟨css, h1, h2, h3⟩ := h
  have hl := All2.length h3
  rcases h1.form with ⟨rfl, hn⟩ | ⟨g, cap, cur, rfl, _⟩
  · rw [hn] at hl; exact ⟨none, 0, by rw [← hl]; rfl⟩
  · exact ⟨_, cap, by rw [hl]⟩
/-- A list that is built, behind changes below its base. -/
theorem Building.shift6 {α : Type} {K : Kind α} {W W' : World} {B : Nat} {T : TypeId} {v : Value} {xs : List α} (h : Building K W (fun k => B ≤ k ∧ v.ownBlock ≠ some k) B T v xs) (k : Kp (fun k => k < B) W W') : Building K W' (fun k => B ≤ k ∧ v.ownBlock ≠ some k) B T v xs :=
  h.kept (fun j hj => k.block j (h.lt hj).2 (fun e => by have h1 := (h.lt hj).1; have e' : j < B := e; omega)) (fun j hj hlt => k.block j hlt (fun e => by have h1 := hj.1; have e' : j < B := e; omega)) (fun _ h _ => h)
theorem building_snoc6 {α : Type} {K : Kind α} {W1 W2 : World} {B N : Nat} {T : TypeId} {v v' : Value} {css : List (List Value)} {xs : List α} {c : List Value} {x : α} {o : Obj}
    (hall : All2 (K.is W1 (fun k => B ≤ k ∧ v.ownBlock ≠ some k)) css xs) (hc : K.is W1 (fun k => N ≤ k) c x) (hN : B ≤ N) (hown : ∀ k, v.ownBlock = some k → k < N)
    (hcon' : Con W2 B T K.size v' (css ++ [c])) (hg : (W1.alloc o).grownBy W2 v.ownBlock) (hat : v'.ownBlock = v.ownBlock ∨ v'.ownBlock = some (W1.alloc o).heap.size) : Building K W2 (fun k => B ≤ k ∧ v'.ownBlock ≠ some k) B T v' (xs ++ [x]) := by
  have hgr : ∀ k, k < W1.heap.size → v.ownBlock ≠ some k → W2.heap[k]? = W1.heap[k]? := fun k hk hn => (hg.block k (by rw [World.size_alloc]; omega) (fun h => hn h.symm)).trans (Below.heap_alloc _ _ _ hk)
  have hv : ∀ k, k < W1.heap.size → v.ownBlock ≠ some k → v'.ownBlock ≠ some k := fun k hk hn e => by
    rcases hat with h | h
    · exact hn (h ▸ e)
    · rw [h, World.size_alloc] at e
      have e' := Option.some.inj e
      omega
  refine ⟨_, hcon', All2.snoc (All2.imp hall fun b y h => K.moved h (fun k hk hlt => hgr k hlt hk.2) (fun k hk hlt => ⟨hk.1, hv k hlt hk.2⟩)) (K.moved hc (fun k hk hlt => hgr k hlt (fun e => ?_)) (fun k hk hlt => ⟨Nat.le_trans hN hk, hv k hlt (fun e => ?_)⟩))⟩
  · have h1 := hown k e; have h2 : N ≤ k := hk; omega
  · have h1 := hown k e; have h2 : N ≤ k := hk; omega
theorem app_facts6 {X W' : World} {v : Value} {o : Obj} {b : Nat} {T : TypeId} {cs : List Value} {C : Nat} (hg : (X.alloc o).grownBy W' v.ownBlock) (hv : ∀ k, v.ownBlock = some k → C ≤ k) (h : Blk X b T cs) (hb : b < C) : Blk W' b T cs :=
  (hg.block b (by rw [World.size_alloc]; have := h.lt; omega) (fun e => by have := hv b e.symm; omega)).trans (h.alloc o)
/-- What is appended: one struct. -/
theorem wpList_append_con6 {w : World} {B T t m bytes : Nat} {i0 : TypeInfo} {z : Value} (ht : Tryz.prog.underlying t = some (.slice T)) (hi : Tryz.prog.info? T = some i0) (hz0 : i0.zero = some z) (hz1 : i0.size = m) (hz2 : i0.bytes = bytes) (hzs : z.cells.size = m) (hm : 0 < m) (hby : bytes ≤ 200)
    {ops : Array Oper} {rest : List Oper} {o : Oper} {a : Act} {Q : Exit → Act → World → Prop} (hgd : o.guard = none) (s x : Operand)
    (hop : o.op = Op.call { callee := Callee.builtin Builtin.append, args := #[s, x], argTypes := #[t, t] })
    (v : Value) (css : List (List Value)) (c : List Value) (hs : a.eval s = v) (hown : Con w B T m v css) (b : Nat) (hx : a.eval x = .slice (some ⟨b, 0, none⟩) 1 1)
    (hc : Blk w b T c) (hcl : c.length = m) (h1 : ∀ u ∈ c, u.oneCell' = true) (hlen : css.length + 1 ≤ 1000000) (hB : B ≤ w.heap.size)
    (hK : ∀ v' w', Con w' B T m v' (css ++ [c]) → w.grownBy w' v.ownBlock → (v'.ownBlock = v.ownBlock ∨ v'.ownBlock = some w.heap.size) → v'.oneCell' = true → wpList Tryz.prog ops Q rest (a.put o.dst v') w') : wpList Tryz.prog ops Q (o :: rest) a w := by
  refine wpList_plain hgd fun K hK' => ?_
  exact con_append ht hi hz0 hz1 hz2 hzs hm hby s x hop v css c hs hown b hx hc hcl h1 hlen hB fun v' w' h2 h3 h4 h5 => hK' _ _ (hK v' w' h2 h3 h4 h5)
theorem info_parts6 {P : Program} {T : TypeId} {z : Option Value} {m b : Nat} (h : (P.info? T).map (fun i => (i.zero, i.size, i.bytes)) = some (z, m, b)) : ∃ i, P.info? T = some i ∧ i.zero = z ∧ i.size = m ∧ i.bytes = b := by
  cases hi : P.info? T with
  | none => rw [hi] at h; cases h
  | some i => rw [hi] at h; simp only [Option.map_some, Option.some.injEq, Prod.mk.injEq] at h; exact ⟨i, rfl, h.1, h.2.1, h.2.2⟩
/-- How much there is to read, as the reader's block tells. -/
def left6 (n rb : Nat) (W : World) : Nat := if intOf ((W.cell? ⟨rb, 2, none⟩).getD (.int .i64 0)) = 0 then n + 1 - (intOf ((W.cell? ⟨rb, 1, none⟩).getD (.int .i64 0))).toNat else 0
theorem left6_of {n rb i E : Nat} {W : World} {v0 : Value} {O N : Int} {T : TypeId} (h : Blk W rb T [v0, .int .i64 (i : Nat), .int .i64 (E : Nat), .int .i64 O, .int .i64 N]) : left6 n rb W = if E = 0 then n + 1 - i else 0 := by
  unfold left6
  rw [h.cell (i := 2) rfl, h.cell (i := 1) rfl]
  simp [intOf]
theorem drop_len {Ls l : List Foyer.Lexer.Tok} {i : Nat} (h : l = Ls.drop i) (hi : i ≤ Ls.length) : l.length + i = Ls.length := by
  rw [h, List.length_drop]; omega
/-- A part that was read is a step. -/
theorem part_less {α : Type} {N : Nat} {p : Par α} (he : Eats p) {q : St → List α × St} (hq : FitM N (andThen p fun a => give [a]) q) {s s1 : St} {a : List α} (hs : SaneS s) (h0 : s.err = 0) (h : q s = (a, s1)) (h1 : s1.err = 0) : s1.left.length < s.left.length := by
  obtain ⟨_, _, h3⟩ := hq s hs
  rw [h] at h3
  have h3 := h3 h0
  cases hp : p s.left with
  | bad r => rw [then_bad hp] at h3; exact absurd h1 h3.1
  | ok x r =>
    rw [then_of hp] at h3
    obtain ⟨_, _, h5⟩ := h3
    have := he _ _ _ hp
    have e : s1.left = r := h5
    rw [e]; exact this
theorem part_sane {α : Type} {N : Nat} {p : Par α} {q : St → List α × St} (hq : FitM N (andThen p fun a => give [a]) q) {s s1 : St} {a : List α} (hs : SaneS s) (h : q s = (a, s1)) : SaneS s1 := hs.suf (by have := (hq s hs).1; rw [h] at this; exact this)
end Go.Proofs.YtlfjdohjfmfcdaaGreatDoor
