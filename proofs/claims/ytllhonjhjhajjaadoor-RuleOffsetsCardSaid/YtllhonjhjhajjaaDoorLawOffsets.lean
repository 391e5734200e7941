/-
  The law RuleOffsets: its walk.
-/
import Derived.Test.YtllhonjhjhajjaaDoorLawHelp7
import Derived.Test.YtllhonjhjhajjaaDoorRefSame7
import Derived.Test.YtllhonjhjhajjaaDoorMathOffs
import Derived.Test.YtllhonjhjhajjaaDoorMid
import Derived.Lib.QuietBelow
namespace Go.Proofs.YtllhonjhjhajjaaDoor
open Go.RowKit Go.Sort Go.Shelf Foyer.Rule

theorem token_in (l : List UInt8) (ts : List TokP) (hlx : Foyer.Lexer.Lx 0 l ts none) (u : TokP) (hu : u ∈ ts) (at_ : Nat) (hat : u.pos = at_) (p : Option Addr) (n cap : Nat) (hn : ts.length = n) (w : World) (h : RdT w p ts) (hc : n ≤ cap) (hm : cap ≤ maxLen) :
    Calls Tryd.prog 17 #[.slice p n cap, .int .i64 (at_ : Nat)] w fun e w' => e = .returned (tkV u) ∧ Below w.heap.size w w' := by
  obtain ⟨pre, us, rfl⟩ := List.append_of_mem hu
  exact tokenL_any pre us u at_ hat (by rw [← hat]; exact lx_before hlx) p n cap hn w h hc hm
def headWord (k : Nat) : List UInt8 := if k = 1 then wAllow else if k = 2 then wDeny else if k = 3 then wPrice else if k = 4 then wResale else if k = 5 then wRefund else if k = 6 then wTogether else wSingle
theorem headWord_of {s : List UInt8} {k : Nat} (h : headKind s = k) (hk : k ≠ 0) : s = headWord k := by
  subst h
  unfold headKind at hk ⊢
  repeat' (split at hk; first | (rename_i h; subst h; rfl) | skip)
  all_goals first | exact absurd rfl hk | skip
theorem words_at (q : Nat) (hq : q < 7) : ([.string ⟨#[97, 108, 108, 111, 119]⟩, .string ⟨#[100, 101, 110, 121]⟩, .string ⟨#[112, 114, 105, 99, 101]⟩, .string ⟨#[114, 101, 115, 97, 108, 101]⟩, .string ⟨#[114, 101, 102, 117, 110, 100]⟩, .string ⟨#[116, 111, 103, 101, 116, 104, 101, 114]⟩, .string ⟨#[115, 105, 110, 103, 108, 101]⟩] : List Value)[q]? = some (.string ⟨(headWord (q + 1)).toArray⟩) := by
  match q, hq with
  | 0, _ => rfl
  | 1, _ => rfl
  | 2, _ => rfl
  | 3, _ => rfl
  | 4, _ => rfl
  | 5, _ => rfl
  | 6, _ => rfl
theorem chain_at {α : Type} {Q : Nat → α → Nat → Prop} {lo hi : Nat} {l : List α} {a : α} {k : Nat} (h : Chain Q lo (l.drop k) hi) (hk : l[k]? = some a) : ∃ m, lo ≤ m ∧ Q lo a m ∧ Chain Q m (l.drop (k + 1)) hi := by
  have hlt : k < l.length := (List.getElem?_eq_some_iff.1 hk).1
  have h1 : l[k] = a := (List.getElem?_eq_some_iff.1 hk).2
  rw [← List.getElem_cons_drop hlt, h1] at h
  exact h
theorem chain_end {α : Type} {Q : Nat → α → Nat → Prop} {lo hi : Nat} {l : List α} {k : Nat} (h : Chain Q lo (l.drop k) hi) (hk : l.length ≤ k) : lo ≤ hi := by
  rw [List.drop_eq_nil_of_le hk] at h
  exact h

set_option maxRecDepth 100000 in
set_option maxHeartbeats 2000000 in
theorem offsets_idle (hh : HeadC) (a : ByteArray) (w : World) (h : 4000 < a.size ∨ (parseAll a.data.toList).2.1 ≠ 0) :
    Calls Tryd.prog 6 #[.string a] w fun e w' => e = .returned (.bool true) ∧ Below w.heap.size w w' := by
  have HS : Hid (Since w w) := Below.refl _ _
  have HH := Lib.hid hh
  by_cases h1 : 4000 < a.size
  · have hd : decide ((4000 : Int) < (a.size : Int)) = true := by simp; omega
    clear h hh
    go_enter Tryd.func6, Tryd.ntmps6
    go_wp2_with fail
    refine (HH.out _).mono ?_; rintro x w1 ⟨rfl, hb1⟩
    have HS1 := Lib.hid (HS.out.call hb1); clear hb1
    go_wp2
    go_ret
    exact ⟨rfl, HS1.out⟩
  have hE := h.resolve_left h1
  obtain ⟨xs, E, O, hp⟩ : ∃ x E O, parseAll a.data.toList = (x, E, O) := ⟨_, _, _, rfl⟩
  rw [hp] at hE
  have hE : E ≠ 0 := hE
  obtain rfl := none_of hp hE
  have hd : decide ((4000 : Int) < (a.size : Int)) = false := by simp; omega
  have hne : (((E : Nat) : Int) != 0) = true := by simp [hE]
  have HP := Lib.hid (fun w => rule_s a (by omega) [] E O hp w)
  have HL := Lib.hid (fun w => lex_c a (by omega) (Foyer.Lexer.lexAll a.data.toList).1 (Foyer.Lexer.lexAll a.data.toList).2.1 (Foyer.Lexer.lexAll a.data.toList).2.2 rfl w)
  clear h hh h1 hp hE
  go_enter Tryd.func6, Tryd.ntmps6
  go_wp2_with fail
  refine (HH.out _).mono ?_; rintro x w1 ⟨rfl, hb1⟩
  have HS1 := Lib.hid (HS.out.call hb1); clear hb1
  go_wp2_with fail
  refine (HP.out _).mono ?_; rintro e w2 ⟨sa, sc, rfl, _, hb2⟩
  have hB2 := hb2.alloc hb2.size (.cells #[.slice sa 0 sc] 25)
  have V2 := Lib.hid (Blk.new w2 25 [.slice sa 0 sc])
  have HS2 := Lib.hid (HS1.out.call hB2)
  clear hb2 hB2
  go_upto_region 5 with fail
  have V2 : Hid (Blk (w2.alloc (.cells #[.slice sa 0 sc] 25)) w2.heap.size 25 [.slice sa 0 sc]) := V2
  generalize w2.alloc (.cells #[.slice sa 0 sc] 25) = X2 at *
  generalize w2.heap.size = v2 at *
  go_wp2_with fail
  refine (HL.out _).mono ?_; rintro e w3 ⟨q, cap, rfl, _, _, _, hb3⟩
  have V3 := Lib.hid (V2.out.below hb3)
  have HS3 := Lib.hid (HS2.out.call hb3)
  clear hb3 V2
  generalize (Foyer.Lexer.lexAll a.data.toList).2.1 = F at *
  generalize (Foyer.Lexer.lexAll a.data.toList).2.2 = F2 at *
  generalize (Foyer.Lexer.lexAll a.data.toList).1.length = F3 at *
  have c3 := V3.out.cell (i := 0) rfl
  go_wp2
  go_ret
  exact ⟨rfl, HS3.out⟩
set_option linter.unusedSimpArgs false in
set_option maxRecDepth 100000 in
set_option maxHeartbeats 8000000 in
theorem offsets_main (hh : HeadC) (a : ByteArray) (w : World) (ha : a.size ≤ 4000) (xs : List ItemP) (O : Int) (hp : parseAll a.data.toList = (xs, 0, O)) :
    Calls Tryd.prog 6 #[.string a] w fun e w' => e = .returned (.bool true) ∧ Below w.heap.size w w' := by
  obtain ⟨ts, hx, hlx, hn5, hi, hch⟩ := offsets hp
  have HS : Hid (Since w w) := Below.refl _ _
  have HH := Lib.hid hh
  have hd : decide ((4000 : Int) < (a.size : Int)) = false := by simp; omega
  have HP := Lib.hid (fun w => rule_s a (by omega) xs 0 O hp w)
  have HL := Lib.hid (fun w => lex_c a (by omega) ts 0 0 hx w)
  have HX := Lib.hid hlx; have HCH := Lib.hid hch
  obtain ⟨nt, hnt⟩ : ∃ nt, ts.length = nt := ⟨_, rfl⟩
  have HNT := Lib.hid hnt
  obtain ⟨n, hn⟩ : ∃ n, xs.length = n := ⟨_, rfl⟩
  have HN := Lib.hid hn
  rw [hn] at HP
  rw [hnt] at HL
  clear hp hx hlx hch hh hnt hn hn5
  go_enter Tryd.func6, Tryd.ntmps6
  go_wp2_with fail
  refine (HH.out _).mono ?_; rintro x w1 ⟨rfl, hb1⟩
  have HS1 := Lib.hid (HS.out.call hb1); clear hb1
  go_wp2_with fail
  refine (HP.out _).mono ?_; rintro e w2 ⟨sa, sc, rfl, hv2, hb2⟩
  have hn9 := bound6 hv2
  rw [HN.out] at hn9
  have hB2 := hb2.alloc hb2.size (.cells #[.slice sa n sc] 25)
  have V2 := Lib.hid (Blk.new w2 25 [.slice sa n sc])
  have L2 := Lib.hid (hv2.late ((Below.refl w2.heap.size w2).alloc (Nat.le_refl _) (.cells #[.slice sa n sc] 25)))
  have HS2 := Lib.hid (HS1.out.call hB2)
  clear hb2 hB2 hv2
  go_upto_region 5 with fail
  have V2 : Hid (Blk (w2.alloc (.cells #[.slice sa n sc] 25)) w2.heap.size 25 [.slice sa n sc]) := V2
  generalize w2.alloc (.cells #[.slice sa n sc] 25) = X2 at *
  generalize w2.heap.size = v2 at *
  go_wp2_with fail
  refine (HL.out _).mono ?_; rintro e w3 ⟨q, cap, rfl, hr3, hc3, hm3, hb3⟩
  have V3 := Lib.hid (V2.out.below hb3)
  have L3 := Lib.hid (L2.out.below hb3)
  have HS3 := Lib.hid (HS2.out.call hb3)
  have HC3 := Lib.hid hc3; have HM3 := Lib.hid hm3; have HR3 := Lib.hid hr3
  clear hb3 V2 L2 hr3 hc3 hm3
  go_upto_region 9 with fail
  have hbw := (Below.refl w3.heap.size w3).alloc (Nat.le_refl _) (.cells #[.string ⟨#[97, 108, 108, 111, 119]⟩, .string ⟨#[100, 101, 110, 121]⟩, .string ⟨#[112, 114, 105, 99, 101]⟩, .string ⟨#[114, 101, 115, 97, 108, 101]⟩, .string ⟨#[114, 101, 102, 117, 110, 100]⟩, .string ⟨#[116, 111, 103, 101, 116, 104, 101, 114]⟩, .string ⟨#[115, 105, 110, 103, 108, 101]⟩] 9)
  have WD := Blk.new w3 9 [.string ⟨#[97, 108, 108, 111, 119]⟩, .string ⟨#[100, 101, 110, 121]⟩, .string ⟨#[112, 114, 105, 99, 101]⟩, .string ⟨#[114, 101, 115, 97, 108, 101]⟩, .string ⟨#[114, 101, 102, 117, 110, 100]⟩, .string ⟨#[116, 111, 103, 101, 116, 104, 101, 114]⟩, .string ⟨#[115, 105, 110, 103, 108, 101]⟩]
  have WD := Lib.hid WD
  have V4 := Lib.hid (V3.out.below hbw); have L4 := Lib.hid (L3.out.below hbw); have HS4 := Lib.hid (HS3.out.call hbw); have HR4 := Lib.hid (RdT.below HR3.out (Nat.le_refl _) hbw)
  clear hbw V3 L3 HS3 HR3
  generalize w3.alloc (.cells #[.string ⟨#[97, 108, 108, 111, 119]⟩, .string ⟨#[100, 101, 110, 121]⟩, .string ⟨#[112, 114, 105, 99, 101]⟩, .string ⟨#[114, 101, 115, 97, 108, 101]⟩, .string ⟨#[114, 101, 102, 117, 110, 100]⟩, .string ⟨#[116, 111, 103, 101, 116, 104, 101, 114]⟩, .string ⟨#[115, 105, 110, 103, 108, 101]⟩] 9) = X4 at *
  generalize w3.heap.size = bw at *
  have HX0 := Lib.hid (Below.refl X4.heap.size X4)
  have hf0 : ∀ (a b c d : Value) (w : World), (Instr.field 44 (.agg #[a, b, c, d]) 0).run Tryd.prog w = .ok a w := fun a b c d w => by kernel_rfl
  have hf1 := tok_field1
  go_wp2
  go_loopw [11, 12] (fun last i wr => ∃ (k lo : Nat), i = .int .i64 k ∧ k ≤ n ∧ last = .int .i64 ((lo : Int) - 1) ∧ Hid (Chain (ItemAt fun t => t ∈ ts) lo (xs.drop k) hi) ∧ Hid (Below X4.heap.size X4 wr)) (fun _ i _ => n - (intOf i).toNat)
  case atStart => exact ⟨0, 0, rfl, Nat.zero_le _, rfl, HCH, HX0⟩
  case round =>
    obtain ⟨k, lo, rfl, hk, rfl, HQ, HB⟩ := hrel
    have y0 := (V4.out.below HB.out).cell (i := 0) rfl
    by_cases hk2 : k < n
    · obtain ⟨x, hx⟩ : ∃ x, xs[k]? = some x := ⟨_, List.getElem?_eq_getElem (by have := HN.out; omega)⟩
      obtain ⟨m, _, hat, hrest⟩ := chain_at HQ.out hx
      obtain ⟨hlo, ⟨u, hu, hup, huk⟩, hk0, hm1, hcs⟩ := hat
      obtain ⟨g, cp, cs, he, hcap9, hcm9, _, hg, ⟨vw, rfl, hw⟩, hcell⟩ := (L4.out.below HB.out).at hx
      rw [HN.out] at he
      injection he with he1 he2 he3
      subst he1 he3
      have hxw : u.text = headWord x.kind := headWord_of huk hk0
      have hk7 : x.kind ≤ 7 := by rw [← huk]; exact headKind_le _
      obtain ⟨kq, hkq⟩ : ∃ kq, x.kind = kq + 1 := ⟨x.kind - 1, by omega⟩
      obtain ⟨xp, hxp⟩ : ∃ xp, x.pos = xp := ⟨_, rfl⟩
      obtain ⟨wa, wc, rfl⟩ := hw.len
      obtain ⟨wn, hwn⟩ : ∃ wn, x.conds.length = wn := ⟨_, rfl⟩
      have hw9 := bound6 hw
      have HWN := Lib.hid hwn
      rw [hwn] at hw hcell hw9
      clear hwn
      have d0 := hcell 0 _ rfl; have d1 := hcell 1 _ rfl; have d2 := hcell 2 _ rfl; have d3 := hcell 3 _ rfl; have d4 := hcell 4 _ rfl; have d5 := hcell 5 _ rfl; have d6 := hcell 6 _ rfl; have d7 := hcell 7 _ rfl; have d8 := hcell 8 _ rfl
      rw [show itemK.size = 9 from rfl] at d0 d1 d2 d3 d4 d5 d6 d7 d8
      rw [Nat.add_zero] at d0
      rw [hkq] at d0 hxw hk7
      have d0 : wr.cell? ⟨g, k * 9, none⟩ = some (.int .i64 ((kq : Int) + 1)) := d0
      rw [hxp] at d8 hlo hup hm1 hcs
      have hwc : wr.cell? ⟨bw, kq, none⟩ = some (.string ⟨u.text.toArray⟩) := by rw [hxw]; exact (WD.out.below HB.out).cell (words_at kq (by omega))
      have hq7 : kq < 7 := by omega
      have hki : (0 : Int) ≤ k ∧ (k : Int) < n := by omega
      have hbx := (Below.refl wr.heap.size wr).alloc (Nat.le_refl _) (.cells #[.int .i64 ((kq : Int) + 1), .string ⟨x.name.toArray⟩, .slice wa wn wc, .int .i64 (x.head.n : Nat), .int .i64 (x.head.rn : Nat), .int .i64 (x.head.rd : Nat), .int .i64 (x.head.sn : Nat), .int .i64 (x.head.sd : Nat), .int .i64 (xp : Nat)] 42)
      have XB := Lib.hid (Blk.new wr 42 [.int .i64 ((kq : Int) + 1), .string ⟨x.name.toArray⟩, .slice wa wn wc, .int .i64 (x.head.n : Nat), .int .i64 (x.head.rn : Nat), .int .i64 (x.head.rd : Nat), .int .i64 (x.head.sn : Nat), .int .i64 (x.head.sd : Nat), .int .i64 (xp : Nat)])
      have HW := Lib.hid (hw.late hbx)
      have HREST := Lib.hid hrest; have HCS := Lib.hid hcs; have HU := Lib.hid hu; have HUP := Lib.hid hup
      have hlx := hwc
      have hbwl : bw < wr.heap.size := Nat.lt_of_lt_of_le WD.out.lt HB.out.size
      have hwc2 := (hbx.cell (p := ⟨bw, kq, none⟩) hbwl).trans hwc
      have HB2 := Lib.hid (HB.out.trans (hbx.mono HB.out.size))
      clear hx hrest hcs hu hup hw hcell huk hxw hxp hkq hwc hlx HB hbx hcap9 hcm9
      go_upto_region 14 with fail
      generalize wr.alloc (.cells #[.int .i64 ((kq : Int) + 1), .string ⟨x.name.toArray⟩, .slice wa wn wc, .int .i64 (x.head.n : Nat), .int .i64 (x.head.rn : Nat), .int .i64 (x.head.rd : Nat), .int .i64 (x.head.sn : Nat), .int .i64 (x.head.sd : Nat), .int .i64 (xp : Nat)] 42) = X5 at *
      have XB : Hid (Blk X5 wr.heap.size 42 [.int .i64 ((kq : Int) + 1), .string ⟨x.name.toArray⟩, .slice wa wn wc, .int .i64 (x.head.n : Nat), .int .i64 (x.head.rn : Nat), .int .i64 (x.head.rd : Nat), .int .i64 (x.head.sn : Nat), .int .i64 (x.head.sd : Nat), .int .i64 (xp : Nat)]) := XB
      generalize wr.heap.size = xb at *
      have c0 : X5.cell? ⟨xb, 0, none⟩ = some (.int .i64 ((kq : Int) + 1)) := XB.out.cell (i := 0) rfl
      have c2 := XB.out.cell (i := 2) rfl
      have c8 := XB.out.cell (i := 8) rfl
      have HCT := Lib.hid (fun (d : Nat) (os : Array Obj) => Calls.regrown_of (token_in _ ts HX.out u HU.out xp HUP.out q nt cap HNT.out (grow (redrawn X5 d) os) (RdT.below (RdT.below HR4.out (Nat.le_refl _) HB2.out) (Nat.le_refl _) (below_regrown _ d os)) HC3.out HM3.out))
      unfold tkV at HCT
      have g0 := fun d os => cell_regrown c0 d os
      have g8 := fun d os => cell_regrown c8 d os
      have gw := fun d os => cell_regrown hwc2 d os
      have e1 : decide ((kq : Int) + 1 < 1) = false := by simp; omega
      have e2 : decide ((7 : Int) < (kq : Int) + 1) = false := by simp; omega
      have e4 : decide ((xp : Int) ≤ (lo : Int) - 1) = false := by simp; omega
      refine wp_region_quiet_below (by kernel_rfl) (by kernel_rfl) ?_
      repeat (go_big_quiet_step (with_reducible exact HCT.out _ _))
      refine wpQuiet_nil ?_
      intro _ hw'
      obtain ⟨⟨dq, osq⟩, hw''⟩ := hw'
      subst hw''
      have hbr := below_regrown X5 dq osq
      have XB2 := Lib.hid (XB.out.below hbr); have HW2 := Lib.hid (HW.out.below hbr); have HB3 := Lib.hid (HB2.out.trans (hbr.mono HB2.out.size))
      clear g0 g8 gw e1 e2 e4 c0 c2 c8 hwc2 XB HW HB2 HCT hbr d0 d1 d2 d3 d4 d5 d6 d7 d8 y0
      generalize grow (redrawn X5 dq) osq = X6 at *
      have c8 := XB2.out.cell (i := 8) rfl
      have HX6 := Lib.hid (Below.refl X6.heap.size X6)
      go_wp2
      clear c8
      generalize wr = wo at *
      go_loopw [11, 14] (fun last i wr => ∃ (j lo2 : Nat), i = .int .i64 j ∧ j ≤ wn ∧ last = .int .i64 ((lo2 : Int) - 1) ∧ Hid (Chain (ListAt fun t => t ∈ ts) lo2 (x.conds.drop j) m) ∧ Hid (Below X6.heap.size X6 wr)) (fun _ i _ => wn - (intOf i).toNat)
      case atStart => exact ⟨0, xp + 1, rfl, Nat.zero_le _, by simp, HCS, HX6⟩
      case round =>
        obtain ⟨j, lo2, rfl, hj, rfl, HQ2, HZ⟩ := hrel
        have c2 := (XB2.out.below HZ.out).cell (i := 2) rfl
        by_cases hj2 : j < wn
        · obtain ⟨l, hl⟩ : ∃ l, x.conds[j]? = some l := ⟨_, List.getElem?_eq_getElem (by have := HWN.out; omega)⟩
          obtain ⟨m2, _, ⟨hne, hcl⟩, hrest2⟩ := chain_at HQ2.out hl
          obtain ⟨g2, cp2, cs2, he, _, _, _, hg2, ⟨vl, rfl, hl1⟩, hcell2⟩ := (HW2.out.below HZ.out).at hl
          rw [HWN.out] at he
          injection he with he1 he2 he3
          subst he1 he3
          have dl := hcell2 0 _ rfl
          rw [show testsK.size = 1 from rfl, Nat.mul_one, Nat.add_zero] at dl
          obtain ⟨la, lc, rfl⟩ := hl1.len
          have hl9 := bound6 hl1
          obtain ⟨nl, hnl⟩ : ∃ nl, l.length = nl := ⟨_, rfl⟩
          have hnl0 : (((nl : Nat) : Int) == 0) = false := by
            have : l.length ≠ 0 := fun h => hne (List.length_eq_zero_iff.1 h)
            simp; omega
          rw [hnl] at dl hl1 hl9
          have hji : (0 : Int) ≤ j ∧ (j : Int) < wn := by omega
          have HNL := Lib.hid hnl; have HL1 := Lib.hid hl1; have HCL := Lib.hid hcl; have HREST2 := Lib.hid hrest2
          have hxb := (XB2.out.below HZ.out).lt
          clear hcell2 hl hne hcl hrest2 hl1 hnl
          have HZ0 := Lib.hid (Below.refl wr.heap.size wr)
          go_wp2
          have C2 := Lib.hid c2; have DL := Lib.hid dl
          clear c2 dl
          generalize wr = wo2 at *
          go_loopw [11, 15] (fun last i wr => ∃ (r lo3 : Nat), i = .int .i64 r ∧ r ≤ nl ∧ last = .int .i64 ((lo3 : Int) - 1) ∧ Hid (Chain (TestAt fun t => t ∈ ts) lo3 (l.drop r) m2) ∧ Hid (Below wo2.heap.size wo2 wr)) (fun _ i _ => nl - (intOf i).toNat)
          case atStart => exact ⟨0, lo2, rfl, Nat.zero_le _, rfl, HCL, HZ0⟩
          case round =>
            obtain ⟨r, lo3, rfl, hr, rfl, HQ3, HY⟩ := hrel
            have c2 := (HY.out.cell (p := ⟨xb, 2, none⟩) hxb).trans C2.out
            have dl := (HY.out.cell (p := ⟨g2, j, none⟩) hg2).trans DL.out
            by_cases hr2 : r < nl
            · obtain ⟨v, hv⟩ : ∃ v, l[r]? = some v := ⟨_, List.getElem?_eq_getElem (by have := HNL.out; omega)⟩
              obtain ⟨m3, _, ⟨hlo3, hm3, u2, hu2, hup2, huk2, hut2⟩, hrest3⟩ := chain_at HQ3.out hv
              obtain ⟨g3, cp3, cs3, he, _, _, _, hg3, rfl, hcell3⟩ := (HL1.out.below HY.out).at hv
              rw [HNL.out] at he
              injection he with he1 he2 he3
              subst he1 he3
              obtain ⟨tp, htp⟩ : ∃ tp, v.pos = tp := ⟨_, rfl⟩
              have f0 := hcell3 0 _ rfl; have f1 := hcell3 1 _ rfl; have f2 := hcell3 2 _ rfl; have f3 := hcell3 3 _ rfl; have f4 := hcell3 4 _ rfl
              rw [show testK.size = 5 from rfl] at f0 f1 f2 f3 f4
              rw [Nat.add_zero] at f0
              rw [htp] at f4 hlo3 hm3 hup2
              have hri : (0 : Int) ≤ r ∧ (r : Int) < nl := by omega
              have hbx := (Below.refl wr.heap.size wr).alloc (Nat.le_refl _) (.cells #[.string ⟨v.attr.toArray⟩, .int .i64 (v.op : Nat), .string ⟨v.name.toArray⟩, .int .i64 (v.n : Nat), .int .i64 (tp : Nat)] 48)
              have XT := Lib.hid (Blk.new wr 48 [.string ⟨v.attr.toArray⟩, .int .i64 (v.op : Nat), .string ⟨v.name.toArray⟩, .int .i64 (v.n : Nat), .int .i64 (tp : Nat)])
              have HREST3 := Lib.hid hrest3; have HU2 := Lib.hid hu2; have HUP2 := Lib.hid hup2
              have e6 : (u2.text == v.attr) = true := by simp [hut2]
              have e5 : (((u2.kind : Nat) : Int) != 1) = false := by simp [huk2]
              have e5' : (((u2.kind : Nat) : Int) == 1) = true := by simp [huk2]
              have HY2 := Lib.hid (HY.out.trans (hbx.mono HY.out.size))
              clear hv hrest3 hu2 hup2 huk2 hut2 hcell3 htp HY hbx
              go_upto_region 26 with fail
              generalize wr.alloc (.cells #[.string ⟨v.attr.toArray⟩, .int .i64 (v.op : Nat), .string ⟨v.name.toArray⟩, .int .i64 (v.n : Nat), .int .i64 (tp : Nat)] 48) = X7 at *
              generalize wr.heap.size = tb at *
              have c0 := XT.out.cell (i := 0) rfl
              have c4 := XT.out.cell (i := 4) rfl
              have HR7 := Lib.hid (RdT.below (RdT.below (RdT.below (RdT.below HR4.out (Nat.le_refl _) HB3.out) (Nat.le_refl _) HZ.out) (Nat.le_refl _) HY2.out) (Nat.le_refl _) (Below.refl _ _))
              have HCT := Lib.hid (fun (d : Nat) (os : Array Obj) => Calls.regrown_of (token_in _ ts HX.out u2 HU2.out tp HUP2.out q nt cap HNT.out (grow (redrawn X7 d) os) (RdT.below HR7.out (Nat.le_refl _) (below_regrown _ d os)) HC3.out HM3.out))
              unfold tkV at HCT
              have g0 := fun d os => cell_regrown c0 d os
              have g4 := fun d os => cell_regrown c4 d os
              have e4 : decide ((tp : Int) ≤ (lo3 : Int) - 1) = false := by simp; omega
              refine wp_region_quiet_below (by kernel_rfl) (by kernel_rfl) ?_
              repeat (go_big_quiet_step (with_reducible exact HCT.out _ _))
              refine wpQuiet_nil ?_
              intro _ hw'
              obtain ⟨⟨dq, osq⟩, hw''⟩ := hw'
              subst hw''
              have hbr := below_regrown X7 dq osq
              have XT2 := Lib.hid (XT.out.below hbr); have HY3 := Lib.hid (HY2.out.trans (hbr.mono HY2.out.size))
              clear g0 g4 e4 e5 e5' e6 c0 c4 XT HY2 HCT hbr f0 f1 f2 f3 f4 c2 dl
              generalize grow (redrawn X7 dq) osq = X8 at *
              have c4 := XT2.out.cell (i := 4) rfl
              go_wp2
              refine ⟨⟨r + 1, tp + 1, by go_num, by omega, by simp, Lib.hid (chain_early test_early _ _ _ _ hm3 HREST3.out), HY3⟩, ?_⟩
              simp [intOf]; omega
            · obtain rfl : r = nl := by omega
              have hle := chain_end HQ3.out (by have := HNL.out; omega)
              have HY2 := Lib.hid (HZ.out.trans (HY.out.mono HZ.out.size))
              go_wp2
              refine ⟨⟨j + 1, lo3, by go_num, by omega, rfl, Lib.hid (chain_early list_early _ _ _ _ hle HREST2.out), HY2⟩, ?_⟩
              simp [intOf]; omega
        · obtain rfl : j = wn := by omega
          have hle := chain_end HQ2.out (by have := HWN.out; omega)
          have HY2 := Lib.hid (HB3.out.trans (HZ.out.mono HB3.out.size))
          go_wp2
          refine ⟨⟨k + 1, lo2, by go_num, by omega, rfl, Lib.hid (chain_early item_early _ _ _ _ hle HREST.out), HY2⟩, ?_⟩
          simp [intOf]; omega
    · obtain rfl : k = n := by omega
      go_wp2
      go_ret
      exact ⟨rfl, HS4.out.trans (HB.out.mono HS4.out.size)⟩
theorem offsets_walk_of (hh : HeadC) (a : ByteArray) (w : World) :
    Calls Tryd.prog 6 #[.string a] w fun e w' => e = .returned (.bool true) ∧ Below w.heap.size w w' := by
  by_cases h : 4000 < a.size ∨ (parseAll a.data.toList).2.1 ≠ 0
  · exact offsets_idle hh a w h
  · obtain ⟨xs, E, O, hp⟩ : ∃ x E O, parseAll a.data.toList = (x, E, O) := ⟨_, _, _, rfl⟩
    rw [hp] at h
    have h0 : E = 0 := Decidable.byContradiction fun hE => h (Or.inr hE)
    subst h0
    exact offsets_main hh a w (by omega) xs O hp
end Go.Proofs.YtllhonjhjhajjaaDoor
