/-
  The walks of lists: tests, lists of tests, rules.
-/
import Derived.Test.YtlfjdohjfmfcdabDoorWalkTest
namespace Go.Proofs.YtlfjdohjfmfcdabDoor
open Go.RowKit Go.Sort Go.Shelf Foyer.Rule Foyer.Round

def lenOf : Value → Nat
  | .slice _ n _ => n
  | _ => 0
theorem building_one {α : Type} {K : Kind α} {W : World} {B : Nat} {T : TypeId} {c : List Value} {x : α} (hc : K.is W (fun k => B ≤ k) c x) (hB : B ≤ W.heap.size) :
    Building K (W.alloc (.cells c.toArray T)) (fun k => B ≤ k ∧ (Value.slice (some ⟨W.heap.size, 0, none⟩) 1 1).ownBlock ≠ some k) B T (.slice (some ⟨W.heap.size, 0, none⟩) 1 1) [x] :=
  ⟨[c], con_one (Blk.new W T c) hB (K.len hc), .cons (K.moved hc (fun k _ hlt => Below.heap_alloc _ _ _ hlt) (fun k hk hlt => ⟨hk, fun e => by
    have e' : W.heap.size = k := by simpa [Value.ownBlock] using e
    omega⟩)) .nil⟩
theorem building_snoc {α : Type} {K : Kind α} {W1 W2 : World} {B N : Nat} {T : TypeId} {v v' : Value} {css : List (List Value)} {xs : List α} {c : List Value} {x : α} {o : Obj}
    (hall : All2 (K.is W1 (fun k => B ≤ k ∧ v.ownBlock ≠ some k)) css xs) (hc : K.is W1 (fun k => N ≤ k) c x) (hN : B ≤ N) (hown : ∀ k, v.ownBlock = some k → k < N)
    (hcon' : Con W2 B T K.size v' (css ++ [c])) (hg : (W1.alloc o).grownBy W2 v.ownBlock) (hat : v'.ownBlock = v.ownBlock ∨ v'.ownBlock = some (W1.alloc o).heap.size) : Building K W2 (fun k => B ≤ k ∧ v'.ownBlock ≠ some k) B T v' (xs ++ [x]) := by
  have hgr : ∀ k, k < W1.heap.size → v.ownBlock ≠ some k → W2.heap[k]? = W1.heap[k]? := fun k hk hn => (hg.block k (by rw [World.size_alloc]; omega) (fun h => hn h.symm)).trans (Below.heap_alloc _ _ _ hk)
  have hv : ∀ k, k < W1.heap.size → v.ownBlock ≠ some k → v'.ownBlock ≠ some k := fun k hk hn e => by
    rcases hat with h | h
    · exact hn (h ▸ e)
    · rw [h, World.size_alloc] at e
      have e' := Option.some.inj e
      omega
  refine ⟨_, hcon', All2.snoc (All2.imp hall fun b y h => K.moved h (fun k hk hlt => hgr k hlt hk.2) (fun k hk hlt => ⟨hk.1, hv k hlt hk.2⟩)) (K.moved hc (fun k hk hlt => hgr k hlt (fun e => ?_)) (fun k hk hlt => ⟨Nat.le_trans hN hk, hv k hlt (fun e => ?_)⟩))⟩
  · have h1 := hown k e; have h2 : N ≤ k := hk; omega
  · have h1 := hown k e; have h2 : N ≤ k := hk; omega
/-- A list that is built, in a later world. -/
theorem Building.later {α : Type} {K : Kind α} {W W' : World} {B bp : Nat} {T : TypeId} {v : Value} {xs : List α} (h : Building K W (fun k => B ≤ k ∧ v.ownBlock ≠ some k) B T v xs) (k : Kp (onlyB bp) W W') (hb : bp < B) : Building K W' (fun k => B ≤ k ∧ v.ownBlock ≠ some k) B T v xs :=
  h.kept (fun j hj => k.block j (h.lt hj).2 (fun e => by have h1 := (h.lt hj).1; have e' : j = bp := e; omega)) (fun j hj hlt => k.block j hlt (fun e => by have h1 := hj.1; have e' : j = bp := e; omega)) (fun _ h _ => h)
theorem sepL_any (bp L : Nat) (ts : List TokP) (w : World) (h : At w bp L ts) : Calls Tryd.prog 30 #[.pointer (some ⟨bp, 0, none⟩)] w fun e w' => ((∃ r, sepL ts = some r ∧ e = .returned (.bool true) ∧ At w' bp L r) ∨ (sepL ts = none ∧ e = .returned (.bool false) ∧ At w' bp L ts)) ∧ Kp (onlyB bp) w w' := by
  refine (left_any bp L ts w h _ rfl).mono ?_
  rintro e w' ⟨rfl, rfl⟩
  refine ⟨?_, Kp.refl _ _⟩
  cases ts with
  | nil => exact Or.inr ⟨rfl, rfl, h⟩
  | cons t r => exact Or.inl ⟨t :: r, rfl, by simp, h⟩
theorem testsC_ent (args : Array Value) (w : World) : (callFunc 64 args).run Tryd.prog w = .ok (.enter 64 args) w := enters_of Tryd.func64 (by kernel_rfl) rfl args w
set_option maxRecDepth 100000 in
theorem testsC_any (bp L bx : Nat) (ts : List TokP) (w : World) (h : At w bp L ts) (hx : Blk w bx 58 [.pointer (some ⟨bp, 0, none⟩)]) : Calls Tryd.prog 64 #[.pointer (some ⟨bx, 0, none⟩)] w fun e w' => ((∃ r, sepW wAnd ts = some r ∧ e = .returned (.bool true) ∧ At w' bp L r) ∨ (sepW wAnd ts = none ∧ e = .returned (.bool false) ∧ At w' bp L ts)) ∧ Kp (onlyB bp) w w' := by
  have HA := Lib.hid h
  have hc := hx.cell (i := 0) rfl
  clear h hx
  go_enter Tryd.func64, Tryd.ntmps64
  go_wp2_with fail
  refine (skip_any bp L ts wAnd _ HA.out).mono ?_
  rintro e w1 ⟨⟨r, h1, rfl, a1⟩ | ⟨h1, rfl, a1⟩, k1⟩
  · have H1 := Lib.hid h1; have A1 := Lib.hid a1; have K1 := Lib.hid k1
    clear h1 a1 k1 hc
    go_wp2
    exact bodyPost_ret (results_tmp rfl _ _ _) rfl ⟨Or.inl ⟨r, H1.out, rfl, A1.out⟩, K1.out⟩
  · have H1 := Lib.hid h1; have A1 := Lib.hid a1; have K1 := Lib.hid k1
    clear h1 a1 k1 hc
    go_wp2
    exact bodyPost_ret (results_tmp rfl _ _ _) rfl ⟨Or.inr ⟨H1.out, rfl, A1.out⟩, K1.out⟩
theorem itemC_ent (args : Array Value) (w : World) : (callFunc 52 args).run Tryd.prog w = .ok (.enter 52 args) w := enters_of Tryd.func52 (by kernel_rfl) rfl args w
set_option maxRecDepth 100000 in
theorem itemC_any (bp L bx : Nat) (ts : List TokP) (w : World) (h : At w bp L ts) (hx : Blk w bx 58 [.pointer (some ⟨bp, 0, none⟩)]) : Calls Tryd.prog 52 #[.pointer (some ⟨bx, 0, none⟩)] w fun e w' => ((∃ r, sepW wOr ts = some r ∧ e = .returned (.bool true) ∧ At w' bp L r) ∨ (sepW wOr ts = none ∧ e = .returned (.bool false) ∧ At w' bp L ts)) ∧ Kp (onlyB bp) w w' := by
  have HA := Lib.hid h
  have hc := hx.cell (i := 0) rfl
  clear h hx
  go_enter Tryd.func52, Tryd.ntmps52
  go_wp2_with fail
  refine (skip_any bp L ts wOr _ HA.out).mono ?_
  rintro e w1 ⟨⟨r, h1, rfl, a1⟩ | ⟨h1, rfl, a1⟩, k1⟩
  · have H1 := Lib.hid h1; have A1 := Lib.hid a1; have K1 := Lib.hid k1
    clear h1 a1 k1 hc
    go_wp2
    exact bodyPost_ret (results_tmp rfl _ _ _) rfl ⟨Or.inl ⟨r, H1.out, rfl, A1.out⟩, K1.out⟩
  · have H1 := Lib.hid h1; have A1 := Lib.hid a1; have K1 := Lib.hid k1
    clear h1 a1 k1 hc
    go_wp2
    exact bodyPost_ret (results_tmp rfl _ _ _) rfl ⟨Or.inr ⟨H1.out, rfl, A1.out⟩, K1.out⟩
theorem testF_ent (args : Array Value) (w : World) : (callFunc 63 args).run Tryd.prog w = .ok (.enter 63 args) w := enters_of Tryd.func63 (by kernel_rfl) rfl args w
theorem listTest_info : (Tryd.prog.info? 32).map (fun i => (i.zero, i.size, i.bytes)) = some (some (.agg #[.string ⟨#[]⟩, .int .i64 0, .string ⟨#[]⟩, .int .i64 0, .int .i64 0]), testK.size, 56) := by kernel_rfl
set_option linter.unusedSimpArgs false in
set_option maxRecDepth 100000 in
set_option maxHeartbeats 4000000 in
theorem listTest_any (bp L bx : Nat) (ts : List TokP) (w : World) (h : At w bp L ts) (hx : Blk w bx 58 [.pointer (some ⟨bp, 0, none⟩)]) (hbx : bx ≠ bp) :
    Calls Tryd.prog 62 #[.pointer (some ⟨bp, 0, none⟩), .int .i64 12, .func (.func 63) #[.pointer (some ⟨bp, 0, none⟩)] #[], .func (.func 64) #[] #[.pointer (some ⟨bx, 0, none⟩)]] w (Gives bp L (onlyB bp) w (testsP ts) (ListV testK 32 w.heap.size)) := by
  have hent := testF_ent
  have hent2 := testsC_ent
  have hlt := h.lt
  have HA := Lib.hid h
  have HX := Lib.hid hx
  clear hx
  clear h
  go_enter Tryd.func62, Tryd.ntmps62
  go_wp2_with fail
  refine (test_any bp L ts w HA.out).mono ?_
  rintro e w1 (⟨x, r1, h1, ⟨c, rfl, hc⟩, a1, k1⟩ | ⟨c1, r1, h1, rfl, k1⟩)
  rotate_left
  · have KK := Lib.hid k1; have HB := Lib.hid h1
    clear h1 k1
    unfold failP
    go_wp2
    exact ⟨rfl, gives_bad _ _ (show listP (sepW wAnd) 11 testP ts = _ from then_bad HB.out) KK.out⟩
  obtain rfl : c = [.string ⟨x.attr.toArray⟩, .int .i64 (x.op : Nat), .string ⟨x.name.toArray⟩, .int .i64 (x.n : Nat), .int .i64 (x.pos : Nat)] := hc
  have hc : testK.is w1 (fun k => w.heap.size ≤ k) [.string ⟨x.attr.toArray⟩, .int .i64 (x.op : Nat), .string ⟨x.name.toArray⟩, .int .i64 (x.n : Nat), .int .i64 (x.pos : Nat)] x := rfl
  have hb1 := building_one (T := 32) hc k1.size
  have A1 := Lib.hid (a1.kept (E := fun _ => False) ((Kp.refl _ _).alloc (.cells #[.string ⟨x.attr.toArray⟩, .int .i64 (x.op : Nat), .string ⟨x.name.toArray⟩, .int .i64 (x.n : Nat), .int .i64 (x.pos : Nat)] 32)) (fun _ h => h.elim)); have K1 := Lib.hid (k1.alloc (.cells #[.string ⟨x.attr.toArray⟩, .int .i64 (x.op : Nat), .string ⟨x.name.toArray⟩, .int .i64 (x.n : Nat), .int .i64 (x.pos : Nat)] 32)); have H1 := Lib.hid h1; have HB1 := Lib.hid hb1
  clear a1 k1 h1 hb1 hc HA
  go_upto_region 2 with fail
  have HB1 : Hid (Building testK (w1.alloc (.cells #[.string ⟨x.attr.toArray⟩, .int .i64 (x.op : Nat), .string ⟨x.name.toArray⟩, .int .i64 (x.n : Nat), .int .i64 (x.pos : Nat)] 32)) (fun k => w.heap.size ≤ k ∧ (Value.slice (some ⟨w1.heap.size, 0, none⟩) 1 1).ownBlock ≠ some k) w.heap.size 32 (.slice (some ⟨w1.heap.size, 0, none⟩) 1 1) [x]) := HB1
  generalize w1.alloc (.cells #[.string ⟨x.attr.toArray⟩, .int .i64 (x.op : Nat), .string ⟨x.name.toArray⟩, .int .i64 (x.n : Nat), .int .i64 (x.pos : Nat)] 32) = W1 at *
  generalize w1.heap.size = g1 at *
  go_loopw [9] (fun v wr => ∃ (k : Nat) (xs : List TestP) (us : List TokP), Hid (xs.length + k = 12) ∧ Hid (testsP ts = andThen (rest (sepW wAnd) testP k) (fun bs => give (xs ++ bs)) us) ∧ Hid (At wr bp L us) ∧ Hid (Kp (onlyB bp) w wr) ∧ Hid (Building testK wr (fun k => w.heap.size ≤ k ∧ v.ownBlock ≠ some k) w.heap.size 32 v xs)) (fun v _ => 12 - lenOf v)
  case atStart => exact ⟨11, [x], r1, Lib.hid rfl, Lib.hid (show listP (sepW wAnd) 11 testP ts = _ from then_of H1.out), A1, K1, HB1⟩
  case round =>
    clear HB1 A1 K1 H1
    obtain ⟨k, xs, us, HN, HM, HA, HK, HB⟩ := hrel
    obtain ⟨ga, gc, rfl⟩ := HB.out.len
    go_wp2_with fail
    refine (testsC_any bp L bx us wr HA.out (HX.out.kept HK.out (fun h => hbx h))).mono ?_
    rintro e w2 ⟨⟨r2, h2, rfl, a2⟩ | ⟨h2, rfl, a2⟩, k2⟩
    · have A2 := Lib.hid a2; have H2 := Lib.hid h2; have K2 := Lib.hid (HK.out.trans k2); have B2 := Lib.hid (HB.out.later k2 hlt)
      clear a2 h2 k2 HA HK HB
      by_cases hk0 : k = 0
      · have e1 : (((xs.length : Nat) : Int) == 12) = true := by have := HN.out; simp; omega
        have HK0 := Lib.hid hk0
        clear hk0
        go_wp2_with fail
        refine (fail_any bp L r2 3 _ A2.out).mono ?_
        rintro e w3 ⟨rfl, rfl⟩
        unfold failP
        go_wp2
        refine ⟨rfl, gives_bad 3 r2 ?_ K2.out⟩
        rw [HM.out, HK0.out, then_bad (rest_full H2.out)]
      · obtain ⟨k, rfl⟩ : ∃ k', k = k' + 1 := ⟨k - 1, by omega⟩
        have e1 : (((xs.length : Nat) : Int) == 12) = false := by have := HN.out; simp; omega
        clear hk0
        go_wp2_with fail
        refine (test_any bp L r2 w2 A2.out).mono ?_
        rintro e w3 (⟨x, r3, h3, ⟨c, rfl, hc⟩, a3, k3⟩ | ⟨c3, r3, h3, rfl, k3⟩)
        rotate_left
        · have KK := Lib.hid (K2.out.trans k3); have HBD := Lib.hid h3
          clear h3 k3
          unfold failP
          go_wp2
          refine ⟨rfl, gives_bad _ _ ?_ KK.out⟩
          rw [HM.out, then_bad ((rest_some H2.out _).trans (then_bad HBD.out))]
        obtain rfl : c = [.string ⟨x.attr.toArray⟩, .int .i64 (x.op : Nat), .string ⟨x.name.toArray⟩, .int .i64 (x.n : Nat), .int .i64 (x.pos : Nat)] := hc
        have hc : testK.is w3 (fun k => w2.heap.size ≤ k) [.string ⟨x.attr.toArray⟩, .int .i64 (x.op : Nat), .string ⟨x.name.toArray⟩, .int .i64 (x.n : Nat), .int .i64 (x.pos : Nat)] x := rfl
        obtain ⟨i0, hi, hz0, hz1, hz2⟩ := info_parts' listTest_info
        obtain ⟨css, hcon, hall⟩ := B2.out.later k3 hlt
        have hown : ∀ k, (Value.slice ga xs.length gc).ownBlock = some k → k < w2.heap.size := fun k hk => (B2.out.lt hk).2
        have hbs : w.heap.size ≤ w2.heap.size := K2.out.size
        have K3 := Lib.hid (K2.out.trans k3); have A3 := Lib.hid a3; have H3 := Lib.hid h3; have hs3 := k3.size
        have HI := Lib.hid hi; have HZ0 := Lib.hid hz0; have HZ1 := Lib.hid hz1; have HZ2 := Lib.hid hz2
        have HCON := Lib.hid hcon; have HALL := Lib.hid hall; have HOW := Lib.hid hown; have HC := Lib.hid hc
        have HXL : Hid (css.length + 1 ≤ 1000000) := Lib.hid (by rw [All2.length HALL.out]; have := HN.out; omega)
        clear k3 a3 h3 hi hz0 hz1 hz2 hcon hall hown hc B2 K2 A2
        go_wp2_with (refine wpList_append_con (t := 33) (T := 32) (m := testK.size) (B := w.heap.size) Tryd.underlying33 HI.out HZ0.out HZ1.out HZ2.out rfl (by decide) (by decide) rfl (.tmp 21) (.tmp 24) rfl _ css [.string ⟨x.attr.toArray⟩, .int .i64 (x.op : Nat), .string ⟨x.name.toArray⟩, .int .i64 (x.n : Nat), .int .i64 (x.pos : Nat)] rfl (HCON.out.of_block (fun k hk => Below.heap_alloc _ _ _ (by have := HOW.out k hk; omega))) w3.heap.size rfl (Blk.new w3 32 [.string ⟨x.attr.toArray⟩, .int .i64 (x.op : Nat), .string ⟨x.name.toArray⟩, .int .i64 (x.n : Nat), .int .i64 (x.pos : Nat)]) (testK.len HC.out) (testK.one HC.out) HXL.out (by rw [World.size_alloc]; omega) ?_; intro v' W4 hcon' hg hat hone; have BN := Lib.hid (building_snoc HALL.out HC.out hbs HOW.out hcon' hg hat); have KN := Lib.hid ((K3.out.alloc (.cells ([.string ⟨x.attr.toArray⟩, .int .i64 (x.op : Nat), .string ⟨x.name.toArray⟩, .int .i64 (x.n : Nat), .int .i64 (x.pos : Nat)] : List Value).toArray 32)).grown hg (fun k hk => Or.inr (own_lt HCON.out.own hk).1)); have AN := Lib.hid (A3.out.kept (E := fun k => w.heap.size ≤ k) (((Kp.refl _ w3).alloc (.cells ([.string ⟨x.attr.toArray⟩, .int .i64 (x.op : Nat), .string ⟨x.name.toArray⟩, .int .i64 (x.n : Nat), .int .i64 (x.pos : Nat)] : List Value).toArray 32)).grown hg (fun k hk => Or.inl (own_lt HCON.out.own hk).1)) (fun k hk => by have : w.heap.size ≤ k := hk; omega)); clear hcon' hg hat)
        obtain ⟨ga', gc', hv'⟩ := BN.out.len
        refine ⟨⟨k, xs ++ [x], r3, Lib.hid (by have := HN.out; simp only [List.length_append, List.length_cons, List.length_nil]; omega), Lib.hid ?_, AN, KN, BN⟩, ?_⟩
        · rw [HM.out]
          unfold andThen give
          rw [rest_some H2.out, then_of H3.out]
          unfold andThen give
          cases rest (sepW wAnd) testP k r3 with
          | bad c z => rfl
          | ok zs z => simp
        · rw [hv']
          have := HN.out
          simp only [lenOf, List.length_append, List.length_cons, List.length_nil]
          omega
    · have A2 := Lib.hid a2; have H2 := Lib.hid h2; have K2 := Lib.hid (HK.out.trans k2); have B2 := Lib.hid (HB.out.later k2 hlt)
      clear a2 h2 k2 HA HK HB
      go_wp2
      refine bodyPost_ret (results_tmp rfl _ _ _) rfl (gives_ok xs us ?_ ⟨.slice ga xs.length gc, rfl, B2.out.done (fun k hk _ => hk.1) (fun k hk => hk)⟩ A2.out K2.out)
      rw [HM.out, then_of (rest_none H2.out k), List.append_nil]
      rfl
set_option maxRecDepth 100000 in
theorem tests_any (bp L : Nat) (ts : List TokP) (w : World) (h : At w bp L ts) : Calls Tryd.prog 51 #[.pointer (some ⟨bp, 0, none⟩)] w (Gives bp L (onlyB bp) w (testsP ts) (ListV testK 32 w.heap.size)) := by
  have hmf := makes_func
  have hlt := h.lt
  have P0 := Lib.hid (Blk.new w 58 [.pointer (some ⟨bp, 0, none⟩)])
  have K0 := Lib.hid ((Kp.refl (onlyB bp) w).alloc (.cells #[.pointer (some ⟨bp, 0, none⟩)] 58))
  have A0 := Lib.hid (h.kept (E := fun _ => False) ((Kp.refl _ w).alloc (.cells #[.pointer (some ⟨bp, 0, none⟩)] 58)) (fun _ h => h.elim))
  have hs0 : w.heap.size ≤ (w.alloc (.cells #[.pointer (some ⟨bp, 0, none⟩)] 58)).heap.size := by simp
  clear h
  have c0 := P0.out.cell (i := 0) rfl
  go_enter Tryd.func51, Tryd.ntmps51
  go_wp2_with fail
  refine (listTest_any bp L w.heap.size ts _ A0.out P0.out (by omega)).mono ?_
  rintro e w1 (⟨xs, r, h1, ⟨v, rfl, hv⟩, a1, k1⟩ | ⟨c, r, h1, rfl, k1⟩)
  · have H1 := Lib.hid h1; have A1 := Lib.hid a1; have K1 := Lib.hid (K0.out.trans k1); have HV := Lib.hid (hv.mono (F' := fun k => w.heap.size ≤ k) (fun k hk _ => Nat.le_trans hs0 hk))
    clear h1 a1 k1 hv c0 hs0
    go_wp2
    exact bodyPost_ret (results_tmp rfl _ _ _) rfl (gives_ok xs r H1.out ⟨v, rfl, HV.out⟩ A1.out K1.out)
  · have H1 := Lib.hid h1; have K1 := Lib.hid (K0.out.trans k1)
    clear h1 k1 c0 hs0
    unfold failP
    go_wp2
    exact ⟨rfl, gives_bad _ _ H1.out K1.out⟩
theorem testsF_ent (args : Array Value) (w : World) : (callFunc 51 args).run Tryd.prog w = .ok (.enter 51 args) w := enters_of Tryd.func51 (by kernel_rfl) rfl args w
theorem listTests_info : (Tryd.prog.info? 33).map (fun i => (i.zero, i.size, i.bytes)) = some (some (.slice none 0 0), testsK.size, 24) := by kernel_rfl
set_option linter.unusedSimpArgs false in
set_option maxRecDepth 100000 in
set_option maxHeartbeats 4000000 in
theorem listTests_any (bp L bx : Nat) (ts : List TokP) (w : World) (h : At w bp L ts) (hx : Blk w bx 58 [.pointer (some ⟨bp, 0, none⟩)]) (hbx : bx ≠ bp) :
    Calls Tryd.prog 50 #[.pointer (some ⟨bp, 0, none⟩), .int .i64 12, .func (.func 51) #[.pointer (some ⟨bp, 0, none⟩)] #[], .func (.func 52) #[] #[.pointer (some ⟨bx, 0, none⟩)]] w (Gives bp L (onlyB bp) w (listsP ts) (ListV testsK 33 w.heap.size)) := by
  have hent := testsF_ent
  have hent2 := itemC_ent
  have hlt := h.lt
  have HA := Lib.hid h
  have HX := Lib.hid hx
  clear hx
  clear h
  go_enter Tryd.func50, Tryd.ntmps50
  go_wp2_with fail
  refine (tests_any bp L ts w HA.out).mono ?_
  rintro e w1 (⟨x, r1, h1, ⟨y, rfl, hv⟩, a1, k1⟩ | ⟨c1, r1, h1, rfl, k1⟩)
  rotate_left
  · have KK := Lib.hid k1; have HB := Lib.hid h1
    clear h1 k1
    unfold failP
    go_wp2
    exact ⟨rfl, gives_bad _ _ (show listP (sepW wOr) 11 testsP ts = _ from then_bad HB.out) KK.out⟩
  obtain ⟨sa, sn, sc, rfl⟩ := hv.slice
  have hc : testsK.is w1 (fun k => w.heap.size ≤ k) [.slice sa sn sc] x := ⟨_, rfl, hv⟩
  clear hv
  have hb1 := building_one (T := 33) hc k1.size
  have A1 := Lib.hid (a1.kept (E := fun _ => False) ((Kp.refl _ _).alloc (.cells #[.slice sa sn sc] 33)) (fun _ h => h.elim)); have K1 := Lib.hid (k1.alloc (.cells #[.slice sa sn sc] 33)); have H1 := Lib.hid h1; have HB1 := Lib.hid hb1
  clear a1 k1 h1 hb1 hc HA
  go_upto_region 2 with fail
  have HB1 : Hid (Building testsK (w1.alloc (.cells #[.slice sa sn sc] 33)) (fun k => w.heap.size ≤ k ∧ (Value.slice (some ⟨w1.heap.size, 0, none⟩) 1 1).ownBlock ≠ some k) w.heap.size 33 (.slice (some ⟨w1.heap.size, 0, none⟩) 1 1) [x]) := HB1
  generalize w1.alloc (.cells #[.slice sa sn sc] 33) = W1 at *
  generalize w1.heap.size = g1 at *
  go_loopw [9] (fun v wr => ∃ (k : Nat) (xs : List (List TestP)) (us : List TokP), Hid (xs.length + k = 12) ∧ Hid (listsP ts = andThen (rest (sepW wOr) testsP k) (fun bs => give (xs ++ bs)) us) ∧ Hid (At wr bp L us) ∧ Hid (Kp (onlyB bp) w wr) ∧ Hid (Building testsK wr (fun k => w.heap.size ≤ k ∧ v.ownBlock ≠ some k) w.heap.size 33 v xs)) (fun v _ => 12 - lenOf v)
  case atStart => exact ⟨11, [x], r1, Lib.hid rfl, Lib.hid (show listP (sepW wOr) 11 testsP ts = _ from then_of H1.out), A1, K1, HB1⟩
  case round =>
    clear HB1 A1 K1 H1
    obtain ⟨k, xs, us, HN, HM, HA, HK, HB⟩ := hrel
    obtain ⟨ga, gc, rfl⟩ := HB.out.len
    go_wp2_with fail
    refine (itemC_any bp L bx us wr HA.out (HX.out.kept HK.out (fun h => hbx h))).mono ?_
    rintro e w2 ⟨⟨r2, h2, rfl, a2⟩ | ⟨h2, rfl, a2⟩, k2⟩
    · have A2 := Lib.hid a2; have H2 := Lib.hid h2; have K2 := Lib.hid (HK.out.trans k2); have B2 := Lib.hid (HB.out.later k2 hlt)
      clear a2 h2 k2 HA HK HB
      by_cases hk0 : k = 0
      · have e1 : (((xs.length : Nat) : Int) == 12) = true := by have := HN.out; simp; omega
        have HK0 := Lib.hid hk0
        clear hk0
        go_wp2_with fail
        refine (fail_any bp L r2 3 _ A2.out).mono ?_
        rintro e w3 ⟨rfl, rfl⟩
        unfold failP
        go_wp2
        refine ⟨rfl, gives_bad 3 r2 ?_ K2.out⟩
        rw [HM.out, HK0.out, then_bad (rest_full H2.out)]
      · obtain ⟨k, rfl⟩ : ∃ k', k = k' + 1 := ⟨k - 1, by omega⟩
        have e1 : (((xs.length : Nat) : Int) == 12) = false := by have := HN.out; simp; omega
        clear hk0
        go_wp2_with fail
        refine (tests_any bp L r2 w2 A2.out).mono ?_
        rintro e w3 (⟨x, r3, h3, ⟨y, rfl, hv⟩, a3, k3⟩ | ⟨c3, r3, h3, rfl, k3⟩)
        rotate_left
        · have KK := Lib.hid (K2.out.trans k3); have HBD := Lib.hid h3
          clear h3 k3
          unfold failP
          go_wp2
          refine ⟨rfl, gives_bad _ _ ?_ KK.out⟩
          rw [HM.out, then_bad ((rest_some H2.out _).trans (then_bad HBD.out))]
        obtain ⟨sa, sn, sc, rfl⟩ := hv.slice
        have hc : testsK.is w3 (fun k => w2.heap.size ≤ k) [.slice sa sn sc] x := ⟨_, rfl, hv⟩
        clear hv
        obtain ⟨i0, hi, hz0, hz1, hz2⟩ := info_parts' listTests_info
        obtain ⟨css, hcon, hall⟩ := B2.out.later k3 hlt
        have hown : ∀ k, (Value.slice ga xs.length gc).ownBlock = some k → k < w2.heap.size := fun k hk => (B2.out.lt hk).2
        have hbs : w.heap.size ≤ w2.heap.size := K2.out.size
        have K3 := Lib.hid (K2.out.trans k3); have A3 := Lib.hid a3; have H3 := Lib.hid h3; have hs3 := k3.size
        have HI := Lib.hid hi; have HZ0 := Lib.hid hz0; have HZ1 := Lib.hid hz1; have HZ2 := Lib.hid hz2
        have HCON := Lib.hid hcon; have HALL := Lib.hid hall; have HOW := Lib.hid hown; have HC := Lib.hid hc
        have HXL : Hid (css.length + 1 ≤ 1000000) := Lib.hid (by rw [All2.length HALL.out]; have := HN.out; omega)
        clear k3 a3 h3 hi hz0 hz1 hz2 hcon hall hown hc B2 K2 A2
        go_wp2_with (refine wpList_append_con (t := 34) (T := 33) (m := testsK.size) (B := w.heap.size) Tryd.underlying34 HI.out HZ0.out HZ1.out HZ2.out rfl (by decide) (by decide) rfl (.tmp 21) (.tmp 24) rfl _ css [.slice sa sn sc] rfl (HCON.out.of_block (fun k hk => Below.heap_alloc _ _ _ (by have := HOW.out k hk; omega))) w3.heap.size rfl (Blk.new w3 33 [.slice sa sn sc]) (testsK.len HC.out) (testsK.one HC.out) HXL.out (by rw [World.size_alloc]; omega) ?_; intro v' W4 hcon' hg hat hone; have BN := Lib.hid (building_snoc HALL.out HC.out hbs HOW.out hcon' hg hat); have KN := Lib.hid ((K3.out.alloc (.cells ([.slice sa sn sc] : List Value).toArray 33)).grown hg (fun k hk => Or.inr (own_lt HCON.out.own hk).1)); have AN := Lib.hid (A3.out.kept (E := fun k => w.heap.size ≤ k) (((Kp.refl _ w3).alloc (.cells ([.slice sa sn sc] : List Value).toArray 33)).grown hg (fun k hk => Or.inl (own_lt HCON.out.own hk).1)) (fun k hk => by have : w.heap.size ≤ k := hk; omega)); clear hcon' hg hat)
        obtain ⟨ga', gc', hv'⟩ := BN.out.len
        refine ⟨⟨k, xs ++ [x], r3, Lib.hid (by have := HN.out; simp only [List.length_append, List.length_cons, List.length_nil]; omega), Lib.hid ?_, AN, KN, BN⟩, ?_⟩
        · rw [HM.out]
          unfold andThen give
          rw [rest_some H2.out, then_of H3.out]
          unfold andThen give
          cases rest (sepW wOr) testsP k r3 with
          | bad c z => rfl
          | ok zs z => simp
        · rw [hv']
          have := HN.out
          simp only [lenOf, List.length_append, List.length_cons, List.length_nil]
          omega
    · have A2 := Lib.hid a2; have H2 := Lib.hid h2; have K2 := Lib.hid (HK.out.trans k2); have B2 := Lib.hid (HB.out.later k2 hlt)
      clear a2 h2 k2 HA HK HB
      go_wp2
      refine bodyPost_ret (results_tmp rfl _ _ _) rfl (gives_ok xs us ?_ ⟨.slice ga xs.length gc, rfl, B2.out.done (fun k hk _ => hk.1) (fun k hk => hk)⟩ A2.out K2.out)
      rw [HM.out, then_of (rest_none H2.out k), List.append_nil]
      rfl
end Go.Proofs.YtlfjdohjfmfcdabDoor
