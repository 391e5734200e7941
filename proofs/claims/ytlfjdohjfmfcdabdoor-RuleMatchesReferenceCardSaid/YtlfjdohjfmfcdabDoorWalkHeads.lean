/-
  The walk of a rule.
-/
import Derived.Test.YtlfjdohjfmfcdabDoorWalkList
namespace Go.Proofs.YtlfjdohjfmfcdabDoor
open Go.RowKit Go.Sort Go.Shelf Foyer.Rule Foyer.Round

def headF (f bp : Nat) : Value := .func (.func f) #[.pointer (some ⟨bp, 0, none⟩)] #[]
def headV (k f bp : Nat) : Value := .agg #[.int .i64 (k : Nat), headF f bp]
def headsL (bp : Nat) : List (List UInt8 × Value) := [(wAllow, headV 1 56 bp), (wDeny, headV 2 57 bp), (wPrice, headV 3 58 bp), (wResale, headV 4 59 bp), (wRefund, headV 5 60 bp), (wTogether, headV 6 57 bp), (wSingle, headV 7 57 bp)]
def headAt (k bp : Nat) : Value := if k = 1 then headF 56 bp else if k = 2 then headF 57 bp else if k = 3 then headF 58 bp else if k = 4 then headF 59 bp else if k = 5 then headF 60 bp else if k = 6 then headF 57 bp else if k = 7 then headF 57 bp else .nilFunc
theorem heads_at (s : List UInt8) (bp : Nat) : (entryAt s (headsL bp)).getD (.agg #[.int .i64 0, .nilFunc]) = .agg #[.int .i64 (headKind s : Nat), headAt (headKind s) bp] := by
  unfold headsL headKind
  repeat' (unfold entryAt; split; rfl)
  rfl
theorem heads_look (w : World) {b c bp : Nat} (h : MapB w b (headsL bp) c) (s : List UInt8) : (Instr.lookup 94 (.map (some b)) (.string ⟨s.toArray⟩) false).run Tryd.prog w = .ok (.agg #[.int .i64 (headKind s : Nat), headAt (headKind s) bp]) w := by
  rw [map_lookup Tryd.underlying94 Tryd.underlying9 w (z := .agg #[.int .i64 0, .nilFunc]) (by kernel_rfl) h, heads_at]
theorem head_field0 (a b : Value) (w : World) : (Instr.field 99 (.agg #[a, b]) 0).run Tryd.prog w = .ok a w := by kernel_rfl
theorem headKind_le (s : List UInt8) : headKind s ≤ 7 := by
  unfold headKind
  repeat' (split; decide)
  decide
theorem limitF_ent (args : Array Value) (w : World) : (callFunc 56 args).run Tryd.prog w = .ok (.enter 56 args) w := enters_of Tryd.func56 (by kernel_rfl) rfl args w
theorem nothingF_ent (args : Array Value) (w : World) : (callFunc 57 args).run Tryd.prog w = .ok (.enter 57 args) w := enters_of Tryd.func57 (by kernel_rfl) rfl args w
theorem priceF_ent (args : Array Value) (w : World) : (callFunc 58 args).run Tryd.prog w = .ok (.enter 58 args) w := enters_of Tryd.func58 (by kernel_rfl) rfl args w
theorem resaleF_ent (args : Array Value) (w : World) : (callFunc 59 args).run Tryd.prog w = .ok (.enter 59 args) w := enters_of Tryd.func59 (by kernel_rfl) rfl args w
theorem refundF_ent (args : Array Value) (w : World) : (callFunc 60 args).run Tryd.prog w = .ok (.enter 60 args) w := enters_of Tryd.func60 (by kernel_rfl) rfl args w
structure HeadOk (bp f k : Nat) : Prop where
  ent : ∀ args w, (callFunc f args).run Tryd.prog w = .ok (.enter f args) w
  calls : ∀ (L ib kd pos : Nat) (nm : List UInt8) (v : Value) (ts : List TokP) (w : World), At w bp L ts → Blk w ib 38 (itemCl kd nm v ⟨0, 0, 0, 0, 0⟩ pos) → bp < ib →
    Calls Tryd.prog f #[.pointer (some ⟨bp, 0, none⟩), .pointer (some ⟨ib, 0, none⟩)] w (Gives bp L (twoB bp ib) w (headRest k ts) (fun h e w' => e = .returned (.tuple #[]) ∧ Blk w' ib 38 (itemCl kd nm v h pos)))
theorem head_ok (bp : Nat) {k : Nat} (hk : k ≠ 0) (h7 : k ≤ 7) : ∃ f, headAt k bp = headF f bp ∧ HeadOk bp f k := by
  obtain rfl | rfl | rfl | rfl | rfl | rfl | rfl : k = 1 ∨ k = 2 ∨ k = 3 ∨ k = 4 ∨ k = 5 ∨ k = 6 ∨ k = 7 := by omega
  · exact ⟨56, rfl, limitF_ent, fun L ib kd pos nm v ts w h1 h2 h3 => limit_any bp L ib kd pos nm v ts w h1 h2 h3⟩
  · exact ⟨57, rfl, nothingF_ent, fun L ib kd pos nm v ts w h1 h2 h3 => nothing_any bp L ib kd pos nm v ts w h1 h2 h3⟩
  · exact ⟨58, rfl, priceF_ent, fun L ib kd pos nm v ts w h1 h2 h3 => price_any bp L ib kd pos nm v ts w h1 h2 h3⟩
  · exact ⟨59, rfl, resaleF_ent, fun L ib kd pos nm v ts w h1 h2 h3 => resale_any bp L ib kd pos nm v ts w h1 h2 h3⟩
  · exact ⟨60, rfl, refundF_ent, fun L ib kd pos nm v ts w h1 h2 h3 => refund_any bp L ib kd pos nm v ts w h1 h2 h3⟩
  · exact ⟨57, rfl, nothingF_ent, fun L ib kd pos nm v ts w h1 h2 h3 => nothing_any bp L ib kd pos nm v ts w h1 h2 h3⟩
  · exact ⟨57, rfl, nothingF_ent, fun L ib kd pos nm v ts w h1 h2 h3 => nothing_any bp L ib kd pos nm v ts w h1 h2 h3⟩
set_option maxRecDepth 100000 in
set_option maxHeartbeats 2000000 in
theorem heads_any (bp : Nat) (w : World) : Calls Tryd.prog 45 #[.pointer (some ⟨bp, 0, none⟩)] w fun e w' => e = .returned (.map (some w.heap.size)) ∧ w' = w.alloc (.map (entriesOf 0 (headsL bp)).toArray 7) := by
  have hmf := makes_func
  have i0 : (Instr.mapUpdate 94 (.map (some w.heap.size)) (.string ⟨#[97, 108, 108, 111, 119]⟩) (.agg #[.int .i64 1, .func (.func 56) #[.pointer (some ⟨bp, 0, none⟩)] #[]])).run Tryd.prog (w.alloc (.map #[] 0)) = .ok () (w.alloc (.map (entriesOf 0 [(wAllow, headV 1 56 bp)]).toArray 1)) :=
    map_insert Tryd.underlying94 Tryd.underlying9 w [] wAllow (headV 1 56 bp) rfl 0 rfl _ rfl
  have i1 : (Instr.mapUpdate 94 (.map (some w.heap.size)) (.string ⟨#[100, 101, 110, 121]⟩) (.agg #[.int .i64 2, .func (.func 57) #[.pointer (some ⟨bp, 0, none⟩)] #[]])).run Tryd.prog (w.alloc (.map (entriesOf 0 [(wAllow, headV 1 56 bp)]).toArray 1)) = .ok () (w.alloc (.map (entriesOf 0 [(wAllow, headV 1 56 bp), (wDeny, headV 2 57 bp)]).toArray 2)) :=
    map_insert Tryd.underlying94 Tryd.underlying9 w [(wAllow, headV 1 56 bp)] wDeny (headV 2 57 bp) rfl 1 rfl _ rfl
  have i2 : (Instr.mapUpdate 94 (.map (some w.heap.size)) (.string ⟨#[112, 114, 105, 99, 101]⟩) (.agg #[.int .i64 3, .func (.func 58) #[.pointer (some ⟨bp, 0, none⟩)] #[]])).run Tryd.prog (w.alloc (.map (entriesOf 0 [(wAllow, headV 1 56 bp), (wDeny, headV 2 57 bp)]).toArray 2)) = .ok () (w.alloc (.map (entriesOf 0 [(wAllow, headV 1 56 bp), (wDeny, headV 2 57 bp), (wPrice, headV 3 58 bp)]).toArray 3)) :=
    map_insert Tryd.underlying94 Tryd.underlying9 w [(wAllow, headV 1 56 bp), (wDeny, headV 2 57 bp)] wPrice (headV 3 58 bp) rfl 2 rfl _ rfl
  have i3 : (Instr.mapUpdate 94 (.map (some w.heap.size)) (.string ⟨#[114, 101, 115, 97, 108, 101]⟩) (.agg #[.int .i64 4, .func (.func 59) #[.pointer (some ⟨bp, 0, none⟩)] #[]])).run Tryd.prog (w.alloc (.map (entriesOf 0 [(wAllow, headV 1 56 bp), (wDeny, headV 2 57 bp), (wPrice, headV 3 58 bp)]).toArray 3)) = .ok () (w.alloc (.map (entriesOf 0 [(wAllow, headV 1 56 bp), (wDeny, headV 2 57 bp), (wPrice, headV 3 58 bp), (wResale, headV 4 59 bp)]).toArray 4)) :=
    map_insert Tryd.underlying94 Tryd.underlying9 w [(wAllow, headV 1 56 bp), (wDeny, headV 2 57 bp), (wPrice, headV 3 58 bp)] wResale (headV 4 59 bp) rfl 3 rfl _ rfl
  have i4 : (Instr.mapUpdate 94 (.map (some w.heap.size)) (.string ⟨#[114, 101, 102, 117, 110, 100]⟩) (.agg #[.int .i64 5, .func (.func 60) #[.pointer (some ⟨bp, 0, none⟩)] #[]])).run Tryd.prog (w.alloc (.map (entriesOf 0 [(wAllow, headV 1 56 bp), (wDeny, headV 2 57 bp), (wPrice, headV 3 58 bp), (wResale, headV 4 59 bp)]).toArray 4)) = .ok () (w.alloc (.map (entriesOf 0 [(wAllow, headV 1 56 bp), (wDeny, headV 2 57 bp), (wPrice, headV 3 58 bp), (wResale, headV 4 59 bp), (wRefund, headV 5 60 bp)]).toArray 5)) :=
    map_insert Tryd.underlying94 Tryd.underlying9 w [(wAllow, headV 1 56 bp), (wDeny, headV 2 57 bp), (wPrice, headV 3 58 bp), (wResale, headV 4 59 bp)] wRefund (headV 5 60 bp) rfl 4 rfl _ rfl
  have i5 : (Instr.mapUpdate 94 (.map (some w.heap.size)) (.string ⟨#[116, 111, 103, 101, 116, 104, 101, 114]⟩) (.agg #[.int .i64 6, .func (.func 57) #[.pointer (some ⟨bp, 0, none⟩)] #[]])).run Tryd.prog (w.alloc (.map (entriesOf 0 [(wAllow, headV 1 56 bp), (wDeny, headV 2 57 bp), (wPrice, headV 3 58 bp), (wResale, headV 4 59 bp), (wRefund, headV 5 60 bp)]).toArray 5)) = .ok () (w.alloc (.map (entriesOf 0 [(wAllow, headV 1 56 bp), (wDeny, headV 2 57 bp), (wPrice, headV 3 58 bp), (wResale, headV 4 59 bp), (wRefund, headV 5 60 bp), (wTogether, headV 6 57 bp)]).toArray 6)) :=
    map_insert Tryd.underlying94 Tryd.underlying9 w [(wAllow, headV 1 56 bp), (wDeny, headV 2 57 bp), (wPrice, headV 3 58 bp), (wResale, headV 4 59 bp), (wRefund, headV 5 60 bp)] wTogether (headV 6 57 bp) rfl 5 rfl _ rfl
  have i6 : (Instr.mapUpdate 94 (.map (some w.heap.size)) (.string ⟨#[115, 105, 110, 103, 108, 101]⟩) (.agg #[.int .i64 7, .func (.func 57) #[.pointer (some ⟨bp, 0, none⟩)] #[]])).run Tryd.prog (w.alloc (.map (entriesOf 0 [(wAllow, headV 1 56 bp), (wDeny, headV 2 57 bp), (wPrice, headV 3 58 bp), (wResale, headV 4 59 bp), (wRefund, headV 5 60 bp), (wTogether, headV 6 57 bp)]).toArray 6)) = .ok () (w.alloc (.map (entriesOf 0 (headsL bp)).toArray 7)) :=
    map_insert Tryd.underlying94 Tryd.underlying9 w [(wAllow, headV 1 56 bp), (wDeny, headV 2 57 bp), (wPrice, headV 3 58 bp), (wResale, headV 4 59 bp), (wRefund, headV 5 60 bp), (wTogether, headV 6 57 bp)] wSingle (headV 7 57 bp) rfl 6 rfl _ rfl
  have hmm : (Instr.makeMap 94 none).run Tryd.prog w = .ok (.map (some w.heap.size)) (w.alloc (.map #[] 0)) := run_makeMap _ _
  go_enter Tryd.func45, Tryd.ntmps45
  go_wp2
  exact bodyPost_ret (results_tmp rfl _ _ _) rfl ⟨rfl, rfl⟩
theorem itemT_ent (args : Array Value) (w : World) : (callFunc 47 args).run Tryd.prog w = .ok (.enter 47 args) w := enters_of Tryd.func47 (by kernel_rfl) rfl args w
set_option maxRecDepth 100000 in
theorem itemT_asks (kb mb c bp : Nat) (E : Nat → Prop) (w : World) (hk : Blk w kb 94 [.map (some mb)]) (hm : MapB w mb (headsL bp) c) (h1 : ¬ E kb) (h2 : ¬ E mb) : Asks 47 #[.pointer (some ⟨kb, 0, none⟩)] (fun t => decide (headKind t.text ≠ 0)) E w := by
  intro w1 t k
  have hB := (hk.kept k h1).alloc (.cells #[.int .i64 (t.kind : Nat), .string ⟨t.text.toArray⟩, .int .i64 (t.val : Nat), .int .i64 (t.pos : Nat)] 54)
  have hM := (hm.kept k h2).kept (E := fun _ => False) ((Kp.refl _ _).alloc (.cells #[.int .i64 (t.kind : Nat), .string ⟨t.text.toArray⟩, .int .i64 (t.val : Nat), .int .i64 (t.pos : Nat)] 54)) (fun h => h)
  have h0 := hB.cell (i := 0) rfl
  have hl := heads_look _ hM t.text
  have hf := head_field0
  have e : (((headKind t.text : Nat) : Int) != 0) = decide (headKind t.text ≠ 0) := by
    by_cases h : headKind t.text = 0 <;> simp [h]
  show Calls Tryd.prog 47 #[.agg #[.int .i64 (t.kind : Nat), .string ⟨t.text.toArray⟩, .int .i64 (t.val : Nat), .int .i64 (t.pos : Nat)], .pointer (some ⟨kb, 0, none⟩)] w1 _
  have HE := Lib.hid e
  clear hB hM k hk hm h1 h2 e
  obtain ⟨m, hmk⟩ : ∃ m, headKind t.text = m := ⟨_, rfl⟩
  rw [hmk] at HE hl
  have HMK := Lib.hid hmk
  clear hmk
  obtain ⟨fv, hfv⟩ : ∃ fv, headAt m bp = fv := ⟨_, rfl⟩
  rw [hfv] at hl
  clear hfv
  go_enter Tryd.func47, Tryd.ntmps47
  go_wp2
  refine bodyPost_ret (results_tmp rfl _ _ _) rfl ⟨?_, (Kp.refl _ _).alloc _⟩
  show Ending.returned (.bool (((m : Nat) : Int) != 0)) = Ending.returned (.bool (decide (headKind t.text ≠ 0)))
  rw [HMK.out, HE.out]
end Go.Proofs.YtlfjdohjfmfcdabDoor
