/-
  The law SignChanges: its walk.
-/
import Derived.Test.YtimiminkeencgaaDoorLawEnds
import Derived.Test.YtimiminkeencgaaDoorTail
import Derived.Deep.AppendLies
namespace Go.Proofs.YtimiminkeencgaaDoor
open Go.RowKit Go.Sort Foyer.Digest Foyer.Sign

theorem OwnS.stored {w : World} {B g n cap : Nat} {ls : List (List UInt8)} (h : OwnS w B (.slice (some ⟨g, 0, none⟩) n cap) ls) (hn : ls.length = n) (j : Nat) (x : List UInt8) :
    OwnS (w.setCell ⟨g, j, none⟩ (.string ⟨x.toArray⟩)) B (.slice (some ⟨g, 0, none⟩) n cap) (ls.set j x) := by
  subst hn
  have := (World.ownsRow.stored h j (.string ⟨x.toArray⟩)).1
  unfold OwnS
  rw [List.length_set]
  refine own_cast this rfl ?_
  apply List.ext_getElem?
  intro k
  rw [List.getElem?_set, List.getElem?_map, List.getElem?_map, List.getElem?_set, List.length_map]
  split
  · split <;> rfl
  · rfl

theorem rdS_at {w : World} {b : Nat} {ls : List (List UInt8)} (h : RdS w (some ⟨b, 0, none⟩) ls) (j : Nat) (hj : j < ls.length) : w.cell? ⟨b, 0 + j, none⟩ = some (.string ⟨(ls.getD j []).toArray⟩) := by
  rcases h with e | ⟨b', off, e, _, hc⟩
  · rw [e] at hj; simp at hj
  · simp only [Option.some.injEq, Addr.mk.injEq, and_true] at e
    obtain ⟨rfl, rfl⟩ := e
    exact hc j hj
theorem set_le {ls : List (List UInt8)} {i : Nat} {x : List UInt8} {n : Nat} (h : ∀ t ∈ ls, t.length ≤ n) (hx : x.length ≤ n) : ∀ t ∈ ls.set i x, t.length ≤ n := fun t ht => by
  rcases List.mem_or_eq_of_mem_set ht with h1 | h1
  · exact h t h1
  · rw [h1]; exact hx

set_option linter.unusedSimpArgs false in
set_option maxRecDepth 100000 in
set_option maxHeartbeats 4000000 in
theorem changes_walk (a b : ByteArray) (r : Int) (c : ByteArray) (w : World) (ha : a.size ≤ maxLen) (hb : b.size ≤ maxLen) (hr : (Lit.int .u8 r).wf = true) (hc : c.size ≤ maxLen) (hE : Env w) :
    Calls Tryd.prog 6 #[.string a, .string b, .int .u8 r, .string c] w fun e w' => e = .returned (.bool true) ∧ Below w.heap.size w w' := by
  obtain ⟨s, rfl⟩ : ∃ l : List UInt8, a = ⟨l.toArray⟩ := ⟨_, ba_eq a⟩
  obtain ⟨m, rfl⟩ : ∃ l : List UInt8, b = ⟨l.toArray⟩ := ⟨_, ba_eq b⟩
  obtain ⟨x, rfl⟩ : ∃ l : List UInt8, c = ⟨l.toArray⟩ := ⟨_, ba_eq c⟩
  rw [size_of_list] at ha hb hc
  have hr2 := u8_bounds hr
  obtain ⟨n, rfl⟩ : ∃ n : Nat, r = n := ⟨r.toNat, by omega⟩
  clear hr
  obtain ⟨i, hi⟩ : ∃ i, n % 18 = i := ⟨_, rfl⟩
  have hil : i < 18 := by omega
  have hti : (n : Int).tmod 18 = (i : Nat) := by rw [← hi]; rfl
  have HN : Hid (n < 256) := by show _ < _; omega
  have HI := Lib.hid hil
  clear hr2 hi hil
  have HE := Lib.hid hE; clear hE
  have HS : Hid (Since w w) := Below.refl _ _
  have HA := Lib.hid ha; have HB := Lib.hid hb; have HC := Lib.hid hc; clear ha hb hc
  cases hsh : shortB [s, m, x]
  · have HSH := Lib.hid hsh; clear hsh
    go_enter Tryd.func6, Tryd.ntmps6
    go_wp2_with fail
    refine (head_any _ HE.out).mono ?_; rintro e w1 ⟨rfl, hb1⟩
    have HS := Lib.hid (HS.out.call hb1); clear hb1
    go_wp2_with fail
    refine (short_three s m x _ HSH.out HA.out HB.out HC.out _ _).mono ?_; rintro e w2 ⟨rfl, rfl⟩
    go_wp2
    go_ret
    exact ⟨rfl, HS.out.alloc _⟩
  · have hl := (short_iff'.1 hsh).1
    have hsl : s.length ≤ 300 := hl s (by simp)
    have hml : m.length ≤ 300 := hl m (by simp)
    have hxl : x.length ≤ 300 := hl x (by simp)
    have HSH : Hid (∀ _ : Unit, shortB [s, m, x] = true) := fun _ => hsh
    have HSL := Lib.hid hsl; have HXL := Lib.hid hxl; have HML := Lib.hid hml; clear hsh hl hsl hxl hml
    obtain ⟨q, hq⟩ : ∃ q, sigAt s m i = q := ⟨_, rfl⟩
    have HQ := Lib.hid hq
    have HQD : Hid ((sigOf s m).getD i [] = q) := by show _ = _; unfold sigOf; rw [range_at _ _ _ _ HI.out]; exact hq
    go_enter Tryd.func6, Tryd.ntmps6
    go_wp2_with fail
    refine (head_any _ HE.out).mono ?_; rintro e w1 ⟨rfl, hb1⟩
    have HS := Lib.hid (HS.out.call hb1); clear hb1
    go_wp2_with fail
    refine (short_three s m x _ (HSH.out ()) HA.out HB.out HC.out _ _).mono ?_; rintro e w2 ⟨rfl, rfl⟩
    have HS := Lib.hid (HS.out.alloc (.cells #[.string ⟨s.toArray⟩, .string ⟨m.toArray⟩, .string ⟨x.toArray⟩] 9))
    generalize w1.alloc (.cells #[.string ⟨s.toArray⟩, .string ⟨m.toArray⟩, .string ⟨x.toArray⟩] 9) = w2 at *
    go_wp2_with fail
    refine (sign_any s m (by have := HSL.out; omega) (by have := HML.out; omega) _ (HE.out.below HS.out)).mono ?_; rintro e w4 ⟨bs, rfl, _, hr4, hb4⟩
    have HR := Lib.hid hr4.rd
    have HS := Lib.hid (HS.out.call hb4); clear hb4
    have hci := (hr4 i HI.out).1
    rw [hq] at hci
    have hbl := lt_of_cell hci
    clear hr4 hq
    have hiw : IntKind.i64.wrap (n : Int) = n := by rw [IntKind.wrap_i64]; have := HN.out; omega
    have hil := HI.out
    by_cases hqx : q = x
    · have heq : (q == x) = true := by simp [hqx]
      clear hqx
      go_wp2
      go_ret
      exact ⟨rfl, HS.out⟩
    · have heq : (q == x) = false := by simp [hqx]
      have HQX := Lib.hid hqx; clear hqx
      obtain ⟨pk, hpk⟩ : ∃ pk, pub s = pk := ⟨_, rfl⟩
      obtain ⟨bad, hbd⟩ : ∃ l, (sigOf s m).set i x = l := ⟨_, rfl⟩
      have hbl2 : bad.length = 18 := by rw [← hbd, List.length_set, sigOf_length]
      have hble : ∀ t ∈ bad, t.length ≤ 1000000 := by rw [← hbd]; exact set_le (sigOf_le s m) (by have := HXL.out; omega)
      obtain ⟨v, hv⟩ : ∃ v, verify pk m bad = v := ⟨_, rfl⟩
      have hcol : v = true → Collides ((links x 16 ++ links q 16) ++ [joined (leads m (sigOf s m)), joined (leads m bad)]) := fun h => by
        have := changes (s := s) (m := m) (x := x) HI.out (by rw [HQ.out]; exact HQX.out) (by rw [hpk, hbd, hv, h])
        rw [HQ.out, hbd] at this; exact this
      have hvd : v = true → bad.all isDigest = true := fun h => (verify_form (by rw [hv, h])).2.1
      have HBLN := Lib.hid hbl2; have HBLE := Lib.hid hble; have HBD := Lib.hid hbd
      clear hbl2 hble hbd
      have HPK := Lib.hid hpk; have HV := Lib.hid hv; have HCOL := Lib.hid hcol; have HVD := Lib.hid hvd
      clear hpk hv hcol hvd
      have HBL := Lib.hid hbl; clear hbl
      have HOE := Lib.hid (ownS_lit w4 w4.heap.size [] (Nat.le_refl _) (Nat.zero_le _))
      go_upto_region 10 with fail
      clear hiw hti heq hci
      go_wp2_with (at_builtin; refine wpList_append_s _ rfl _ _ rfl w4.heap.size _ [] rfl HOE.out bs 0 18 (sigOf s m) 18 (sigOf_length _ _) rfl ?c1 ?d3 ?d5 ?_)
      case c1 => exact fun j hj => rdS_at (HR.out.below (Nat.le_refl _) ((Below.refl _ _).alloc (Nat.le_refl _) _)) j hj
      case d3 => simp
      case d5 => simp
      intro v5 w5 hown5 hsz5 hbel5
      have hb5 : Below w4.heap.size w4 w5 := hbel5 _ _ (Nat.le_refl _) ((Below.refl _ _).alloc (Nat.le_refl _) _)
      obtain ⟨g, cap, hv5, hg1, hg2⟩ := World.ownsRow.form hown5 (by rw [sigOf_length]; decide)
      rw [sigOf_length] at hv5
      subst hv5
      have hown5' : OwnS w5 w4.heap.size (.slice (some ⟨g, 0, none⟩) 18 cap) (sigOf s m) := hown5
      have hcell5 : w5.cell? ⟨g, i, none⟩ = some (.string ⟨q.toArray⟩) := by
        have h0 := World.ownsRow.cellAt (xs := (sigOf s m).map fun l => Value.string ⟨l.toArray⟩) (n := 18) (by have := hown5'; unfold OwnS at this; rw [sigOf_length] at this; exact this) i (by have := HI.out; omega)
        rw [h0, List.getElem?_map]
        have h1 := HQD.out
        rw [List.getD_eq_getElem?_getD, List.getElem?_eq_getElem (by rw [sigOf_length]; exact HI.out)] at h1
        rw [List.getElem?_eq_getElem (by rw [sigOf_length]; exact HI.out)]
        simp at h1
        simp [h1]
      have hfr5 : w5.frozen? ⟨g, i, none⟩ = false := World.ownsRow.frozenAt (n := 18) (xs := (sigOf s m).map fun l => Value.string ⟨l.toArray⟩) (by have := hown5'; unfold OwnS at this; rw [sigOf_length] at this; exact this) i
      have HST := Lib.hid (OwnS.stored hown5' (sigOf_length s m) i x)
      have HR5 := Lib.hid (HR.out.below (Nat.le_refl _) hb5)
      have HB6 := Lib.hid (Below.setCell hb5 (p := ⟨g, i, none⟩) hg1 (.string ⟨x.toArray⟩))
      have hrs6 : RdS (w5.setCell ⟨g, i, none⟩ (.string ⟨x.toArray⟩)) (some ⟨bs, 0, none⟩) (sigOf s m) := HR.out.below (Nat.le_refl _) HB6.out
      have HR6 := Lib.hid hrs6
      clear hown5 hown5' hb5 hbel5 hrs6 HR HOE
      have HG2 : Hid (g < w5.heap.size) := hg2
      clear hg2
      go_upto_region 12 with fail
      have HSB := Lib.hid (HS.out.call HB6.out)
      have hbad : RdS (w5.setCell ⟨g, i, none⟩ (.string ⟨x.toArray⟩)) (some ⟨g, 0, none⟩) bad := by
        rw [← HBD.out]
        obtain ⟨p, c, hv, hr, _⟩ := HST.out.slice
        simp only [Value.slice.injEq] at hv
        rw [hv.1]; exact hr
      have HBAD := Lib.hid hbad
      clear hbad HST HB6 hcell5 hfr5 HR5 HG2 hg1
      generalize w5.setCell ⟨g, i, none⟩ (.string ⟨x.toArray⟩) = w6 at *
      go_wp2_with fail
      refine (public_any s (by have := HSL.out; omega) pk HPK.out _ (HE.out.below HSB.out)).mono ?_; rintro e w7 ⟨rfl, hb7⟩
      have HR := Lib.hid (HR6.out.below (Nat.le_refl _) hb7)
      have HBAD := Lib.hid (HBAD.out.below (Nat.le_refl _) hb7)
      have HS := Lib.hid (HSB.out.call hb7); clear hb7 HR6 HSB
      go_wp2_with fail
      refine (verify_any pk m bad _ 18 cap (by have := HML.out; omega) HBLN.out HBLE.out v HV.out _ HBAD.out (HE.out.below HS.out)).mono ?_; rintro e w8 ⟨rfl, hb8⟩
      have HR := Lib.hid (HR.out.below (Nat.le_refl _) hb8)
      have HBAD := Lib.hid (HBAD.out.below (Nat.le_refl _) hb8)
      have HS := Lib.hid (HS.out.call hb8); clear hb8 HV
      cases v
      · go_wp2
        go_ret
        exact ⟨rfl, HS.out⟩
      · have hcol := HCOL.out rfl
        have hvd := HVD.out rfl
        obtain ⟨ja, hja⟩ : ∃ j, joined (leads m (sigOf s m)) = j := ⟨_, rfl⟩
        obtain ⟨jb, hjb⟩ : ∃ j, joined (leads m bad) = j := ⟨_, rfl⟩
        rw [hja, hjb] at hcol
        have hl1 := leads_le m (sigOf s m) (sigOf_length _ _) (sig_digests _ _)
        have hl2 := leads_le m bad HBLN.out hvd
        have hjl1 : ja.length ≤ 1000000000 := by rw [← hja]; exact joined_le _ 18 (leads_length _ _) (by decide) hl1
        have hjl2 : jb.length ≤ 1000000000 := by rw [← hjb]; exact joined_le _ 18 (leads_length _ _) (by decide) hl2
        have hql : q.length = 16 := by rw [← HQ.out]; exact sigAt_length s m i
        have hk1 := links_le x 16 (by have := HXL.out; omega)
        have hk2 := links_le q 16 (by omega)
        have hn1 := links_length x 16
        have hn2 := links_length q 16
        have hlk1 := fun W => links_any x 16 (by decide) (by have := HXL.out; omega) W
        have hlk2 := fun W => links_any q 16 (by decide) (by omega) W
        generalize links x 16 = L1 at *
        generalize links q 16 = L2 at *
        obtain ⟨L, hL⟩ : ∃ L, L1 ++ L2 = L := ⟨_, rfl⟩
        have hall : ∀ t ∈ L ++ [ja, jb], t.length ≤ 1000000000 := two_le (fun t ht => by
          rw [← hL] at ht
          rcases List.mem_append.1 ht with h | h
          · exact hk1 t h
          · exact hk2 t h) hjl1 hjl2
        have hln : L.length = 34 := by rw [← hL, List.length_append, hn1, hn2]
        obtain ⟨N2, hN2⟩ : ∃ n, L2.length = n := ⟨_, rfl⟩
        have hn2' : N2 = 17 := by rw [← hN2, hn2]
        rw [hL] at hcol
        have HLE := Lib.hid hL; have HLN := Lib.hid hln; have HN2 := Lib.hid hN2; have HN2B := Lib.hid hn2'; have HN1 := Lib.hid hn1
        have HCOLB := Lib.hid hcol; have HJA := Lib.hid hja; have HJB := Lib.hid hjb; have HALL := Lib.hid hall; have HL1 := Lib.hid hl1; have HL2 := Lib.hid hl2; have HK1 := Lib.hid hlk1; have HK2 := Lib.hid hlk2
        clear hL hln hN2 hn2' hn1 hn2 hcol hja hjb hall hl1 hl2 hlk1 hlk2 hk1 hk2 hjl1 hjl2 hql HCOL HVD
        go_wp2_with fail
        refine (ends_c m (sigOf s m) _ 18 (by have := HML.out; omega) (sigOf_length _ _) (sigOf_le s m) _ HR.out).mono ?_; rintro e wa ⟨pa, ca, rfl, hra, hba⟩
        have HR := Lib.hid (HR.out.below (Nat.le_refl _) hba)
        have HBAD := Lib.hid (HBAD.out.below (Nat.le_refl _) hba)
        have HS := Lib.hid (HS.out.call hba)
        have HRA := Lib.hid hra
        clear hba hra
        go_wp2_with fail
        refine (ends_c m bad _ cap (by have := HML.out; omega) HBLN.out HBLE.out _ HBAD.out).mono ?_; rintro e wb ⟨pb, cb, rfl, hrb, hbb⟩
        have HR := Lib.hid (HR.out.below (Nat.le_refl _) hbb)
        have HRA := Lib.hid (HRA.out.below (Nat.le_refl _) hbb)
        have HS := Lib.hid (HS.out.call hbb)
        have HRB := Lib.hid hrb
        clear hbb hrb HBAD
        go_wp2_with fail
        have hii : ((i : Nat) : Int) < 18 := by omega
        have hcb : wb.drew.cell? ⟨bs, i, none⟩ = some (.string ⟨q.toArray⟩) := by
          have h0 := rdS_at HR.out i (by show i < (sigOf s m).length; rw [sigOf_length]; exact HI.out)
          rw [Nat.zero_add, HQD.out] at h0
          exact h0
        refine wp_region_any (by kernel_rfl) ?_
        change wpAny _ _ _ _ _ _ _ (World.drew _)
        refine wpAny_take (i := 0) (v := .bool true) rfl (by kernel_rfl) (by kernel_rfl) (by kernel_rfl) (fun _ _ _ h => h) (Or.inl ⟨by kernel_rfl, fun w => by go_simp⟩) ?_
        simp only [Act.put, List.setIfInBounds_toArray, List.set_cons_zero, List.set_cons_succ]
        refine wpAny_take (i := 1) (v := .bool true) rfl (by kernel_rfl) (by kernel_rfl) (by kernel_rfl) (fun _ _ _ h => h) (Or.inl ⟨by kernel_rfl, fun w => by go_simp⟩) ?_
        simp only [Act.put, List.setIfInBounds_toArray, List.set_cons_zero, List.set_cons_succ]
        refine wpAny_take (i := 2) (v := .string ⟨x.toArray⟩) rfl (by kernel_rfl) (by kernel_rfl) (by kernel_rfl) (fun _ _ _ h => h) (Or.inl ⟨by kernel_rfl, fun w => by go_simp⟩) ?_
        simp only [Act.put, List.setIfInBounds_toArray, List.set_cons_zero, List.set_cons_succ]
        refine wpAny_take (i := 4) (v := .slice (some ⟨bs, 0, none⟩) 18 18) rfl (by kernel_rfl) (by kernel_rfl) (by kernel_rfl) (fun _ _ _ h => h) (Or.inl ⟨by kernel_rfl, fun w => by go_simp⟩) ?_
        simp only [Act.put, List.setIfInBounds_toArray, List.set_cons_zero, List.set_cons_succ]
        refine wpAny_take (i := 5) (v := .int .i64 i) rfl (by kernel_rfl) (by kernel_rfl) (by kernel_rfl) (fun _ _ _ h => h) (Or.inl ⟨by kernel_rfl, fun w => by go_simp⟩) ?_
        simp only [Act.put, List.setIfInBounds_toArray, List.set_cons_zero, List.set_cons_succ]
        refine wpAny_take (i := 6) (v := .pointer (some ⟨bs, i, none⟩)) rfl (by kernel_rfl) (by kernel_rfl) (by kernel_rfl) (fun _ _ _ h => h) (Or.inl ⟨by kernel_rfl, fun w => by go_simp⟩) ?_
        simp only [Act.put, List.setIfInBounds_toArray, List.set_cons_zero, List.set_cons_succ]
        refine wpAny_take (i := 10) (v := .slice pa 18 ca) rfl (by kernel_rfl) (by kernel_rfl) (by kernel_rfl) (fun _ _ _ h => h) (Or.inl ⟨by kernel_rfl, fun w => by go_simp⟩) ?_
        simp only [Act.put, List.setIfInBounds_toArray, List.set_cons_zero, List.set_cons_succ]
        refine wpAny_take (i := 12) (v := .slice pb 18 cb) rfl (by kernel_rfl) (by kernel_rfl) (by kernel_rfl) (fun _ _ _ h => h) (Or.inl ⟨by kernel_rfl, fun w => by go_simp⟩) ?_
        simp only [Act.put, List.setIfInBounds_toArray, List.set_cons_zero, List.set_cons_succ]
        apply Foyer.Tail.two_orders (fun w' => w'.cell? ⟨bs, i, none⟩ = some (.string ⟨q.toArray⟩)) (i := 3) (j := 7) (v := .string ⟨q.toArray⟩)
        case hi => exact rfl
        case hj => exact rfl
        case hsel => kernel_rfl
        case hr => kernel_rfl
        case hij => decide
        case hri => kernel_rfl
        case hrj => kernel_rfl
        case hf => kernel_rfl
        case hQ => exact fun _ _ _ h => h
        case hS => exact hcb
        case hy => exact Or.inl ⟨by kernel_rfl, fun w (hS : w.cell? ⟨bs, i, none⟩ = some (.string ⟨q.toArray⟩)) => by go_simp⟩
        intro K hK
        simp only [Act.put, List.setIfInBounds_toArray, List.set_cons_zero, List.set_cons_succ]
        go_simp
        refine (HK1.out _).mono ?_; rintro e wc ⟨v1, rfl, ho1, hb1⟩
        have hcc : wc.cell? ⟨bs, i, none⟩ = some (.string ⟨q.toArray⟩) := by rw [hb1.cell (lt_of_cell hcb)]; exact hcb
        refine hK _ _ hcc ?_
        refine Foyer.Tail.any_of_path [8, 9, 11, 13, 14, 15, 16, 17, 18] _ _ _ (by kernel_rfl) (by kernel_rfl) ?_
        simp only [List.filterMap_cons, List.filterMap_nil, List.getElem?_toArray, List.getElem?_cons_succ, List.getElem?_cons_zero, Act.put, List.setIfInBounds_toArray, List.set_cons_zero, List.set_cons_succ]
        clear hK K
        have HWB := HS
        have HRA0 := HRA
        have HRB0 := HRB
        have HS : Hid (Since wb wc) := (Below.refl wb.heap.size wb).drew.trans hb1
        have HO := Lib.hid ho1
        clear ho1 hb1 hcb hcc HR HRA HRB
        go_wp2_with fail
        refine (HK2.out _).mono ?_; rintro e wd ⟨v2, rfl, ho2, hb2⟩
        have HO := Lib.hid (HO.out.kept hb2)
        have HS := Lib.hid (HS.out.call hb2)
        obtain ⟨p7, c7, rfl, hr7, hm7⟩ := ho2.slice
        clear ho2 hb2 hm7
        rw [HN2.out]
        rcases hr7 with e0 | ⟨b7, off7, rfl, hlt7, hc7⟩
        · have := HN2.out; have hp := HN2B.out; rw [e0] at this; simp at this; omega
        · have HC7 := Lib.hid hc7; clear hc7 hlt7
          dsimp only
          rename_i KK hKK
          refine hKK _ _ ?_
          clear hKK KK
          refine wpList_append_g _ (by kernel_rfl) (.tmp 62) (.tmp 67) rfl wb.heap.size v1 L1 (by kernel_rfl) HO.out b7 off7 c7 L2 N2 HN2.out (by kernel_rfl) HC7.out ?d3 ?d5 ?_
          case d3 => have := HN1.out; have := HN2B.out; omega
          case d5 => exact HS.out.size
          intro v8 w8 hown8 hsz8 hbel8
          rw [HLE.out] at hown8
          have HO := Lib.hid hown8
          have HS : Hid (Since wb w8) := hbel8 _ _ (Nat.le_refl _) HS.out
          clear hown8 hsz8 hbel8 HC7
          have hra := HRA0.out.below (Nat.le_refl _) HS.out
          go_wp2_with fail
          refine (qjoined_c (leads m (sigOf s m)) ja 18 (leads_length _ _) HJA.out _ _ _ hra (by decide) HL1.out).mono ?_; rintro e w10 ⟨rfl, hb10⟩
          have HO := Lib.hid (HO.out.kept hb10)
          have HS := Lib.hid (HS.out.call hb10)
          clear hb10 hra
          have hrb := HRB0.out.below (Nat.le_refl _) HS.out
          go_wp2_with fail
          refine (qjoined_c (leads m bad) jb 18 (leads_length _ _) HJB.out _ _ _ hrb (by decide) HL2.out).mono ?_; rintro e w12 ⟨rfl, hb12⟩
          have HO := Lib.hid (HO.out.kept hb12)
          have HS := Lib.hid (HS.out.call hb12)
          clear hb12 hrb
          dsimp only
          rename_i KK hKK
          refine hKK _ _ ?_
          clear hKK KK
          refine wpList_wanted (by kernel_rfl) ?_
          refine wpList_plain rfl fun K hK => ?_
          go_simp
          refine hK _ _ ?_
          clear hK K
          refine wpList_append_g _ (by kernel_rfl) (.tmp 68) (.tmp 73) rfl wb.heap.size v8 L (by kernel_rfl) (HO.out.alloc _) w12.heap.size 0 2 [ja, jb] 2 rfl (by kernel_rfl) ?c1 ?d3 ?d5 ?_
          case c1 =>
            intro j hj
            match j, hj with
            | 0, _ => simp
            | 1, _ => simp
          case d3 => have := HLN.out; omega
          case d5 => have := HS.out.size; simp; omega
          intro v13 w13 hown13 hsz13 hbel13
          have HO13 := Lib.hid hown13
          have HS : Hid (Since wb w13) := hbel13 _ _ (Nat.le_refl _) (HS.out.alloc _)
          have HN13 : Hid ((L ++ [ja, jb]).length ≤ 100000) := by
            show _ ≤ _
            have := HLN.out
            rw [List.length_append]; simp; omega
          clear hown13 hsz13 hbel13
          go_wp2_with fail
          refine (shown_c (L ++ [ja, jb]) _ v13 _ HO13.out HN13.out HALL.out HCOLB.out).mono ?_; rintro e w14 ⟨rfl, hb14⟩
          have HS := Lib.hid (HS.out.call hb14); clear hb14
          go_wp2
          go_ret
          exact ⟨rfl, HWB.out.call HS.out⟩
end Go.Proofs.YtimiminkeencgaaDoor
