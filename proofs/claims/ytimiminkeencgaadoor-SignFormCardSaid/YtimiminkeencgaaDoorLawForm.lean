/-
  The law SignForm: its walk.
-/
import Derived.Test.YtimiminkeencgaaDoorLawVerifies
import Derived.Test.YtimiminkeencgaaDoorOwnStrs
import Derived.Test.YtimiminkeencgaaDoorTail
import Derived.Deep.AppendLies
import Derived.Deep.RegionHeld
import Derived.Deep.DeepCutAuto
namespace Go.Proofs.YtimiminkeencgaaDoor
open Go.RowKit Go.Sort Foyer.Digest Foyer.Sign

theorem rdS_at' {w : World} {b : Nat} {ls : List (List UInt8)} (h : RdS w (some ⟨b, 0, none⟩) ls) (j : Nat) (hj : j < ls.length) : w.cell? ⟨b, 0 + j, none⟩ = some (.string ⟨(ls.getD j []).toArray⟩) := by
  rcases h with e | ⟨b', off, e, _, hc⟩
  · rw [e] at hj; simp at hj
  · simp only [Option.some.injEq, Addr.mk.injEq, and_true] at e
    obtain ⟨rfl, rfl⟩ := e
    exact hc j hj

/-- What is appended, as a step of a region. -/
theorem step_append_w {ops : Array Oper} {o : Oper} {a : Act} {K : Act → World → Prop} {Q : Exit → Act → World → Prop} {E : Prop} (w : World) (hw : Region.wanted o (yielded ops a.tmps) = true) (s x : Operand)
    (hop : o.op = Op.call { callee := Callee.builtin Builtin.append, args := #[s, x], argTypes := #[22, 22] })
    (B : Nat) (v : Value) (ls : List (List UInt8)) (k : Nat) (hk : ls.length = k) (hs : a.eval s = v) (hown : OwnS w B v ls) (b off c : Nat) (ts : List (List UInt8)) (m : Nat) (hm : ts.length = m) (hm0 : 0 < m) (hx : a.eval x = .slice (some ⟨b, off, none⟩) m c)
    (hc : ∀ j, j < ts.length → w.cell? ⟨b, off + j, none⟩ = some (.string ⟨(ts.getD j []).toArray⟩)) (hlen : ls.length + m ≤ 1000000) (hB : B ≤ w.heap.size)
    (hK : ∀ g cap w', OwnS w' B (.slice (some ⟨g, 0, none⟩) (k + m) cap) (ls ++ ts) → w.grownBy w' v.ownBlock → (∀ C wb, C ≤ B → Below C wb w → Below C wb w') → K (a.put o.dst (.slice (some ⟨g, 0, none⟩) (k + m) cap)) w') :
    if Region.wanted o (yielded ops a.tmps) = true then Oper.wp Tryd.prog o a w K Q else E := by
  subst hk
  rw [if_pos hw]
  obtain ⟨i0, hi, hz0, hz1, hz2⟩ := info_parts strInfo
  refine wp_append_lies w s x 22 hop B 9 i0 (.string ⟨#[]⟩) 1 16 Tryd.underlying22 hi hz0 hz1 hz2 rfl (by decide) v ls.length _ hs hown ⟨b, off, none⟩ m c (ts.map fun l => Value.string ⟨l.toArray⟩) hx (by simp [hm]) ?c1 ?c2 hm0 ?d3 ?d4 hB _ rfl ?_
  case c1 =>
    intro j u hu
    rw [List.getElem?_map] at hu
    have hj : j < ts.length := by
      rcases Nat.lt_or_ge j ts.length with h | h
      · exact h
      · rw [List.getElem?_eq_none h] at hu; cases hu
    rw [List.getElem?_eq_getElem hj] at hu
    simp only [Option.map_some] at hu
    rw [add_plain, hc j hj, ← hu]
    simp [List.getD_eq_getElem?_getD, hj]
  case c2 =>
    intro u hu
    obtain ⟨l, _, rfl⟩ := List.mem_map.1 hu
    rfl
  case d3 => unfold maxLen; omega
  case d4 => omega
  intro g cap w' hown' hg _ _
  refine hK g cap w' ?_ hg fun C wb hC hb => hb.grown hg (Nat.le_trans hC hB) (fun q hq => Nat.le_trans hC (hown.lt q hq).1)
  refine own_cast hown' (by simp [hm]) (by simp)

set_option linter.unusedSimpArgs false in
set_option maxRecDepth 100000 in
set_option maxHeartbeats 4000000 in
theorem form_walk (a b c : ByteArray) (q : Option Addr) (len cap : Nat) (ls : List (List UInt8)) (w : World) (ha : a.size ≤ maxLen) (hb : b.size ≤ maxLen) (hc : c.size ≤ maxLen) (hl : IsStrs w q len ls) (hE : Env w) :
    Calls Tryd.prog 8 #[.string a, .string b, .string c, .slice q len cap] w fun e w' => e = .returned (.bool true) ∧ Below w.heap.size w w' := by
  obtain ⟨s, rfl⟩ : ∃ l : List UInt8, a = ⟨l.toArray⟩ := ⟨_, ba_eq a⟩
  obtain ⟨p, rfl⟩ : ∃ l : List UInt8, b = ⟨l.toArray⟩ := ⟨_, ba_eq b⟩
  obtain ⟨m, rfl⟩ : ∃ l : List UInt8, c = ⟨l.toArray⟩ := ⟨_, ba_eq c⟩
  rw [size_of_list] at ha hb hc
  have HE := Lib.hid hE; clear hE
  have HS : Hid (Since w w) := Below.refl _ _
  have HA := Lib.hid ha; have HB := Lib.hid hb; have HC := Lib.hid hc; have HL := Lib.hid hl; clear ha hb hc hl
  cases hsh : shortB [s, p, m]
  · have HSH := Lib.hid hsh; clear hsh
    go_enter Tryd.func8, Tryd.ntmps8
    go_wp2_with fail
    refine (head_any _ HE.out).mono ?_; rintro e w1 ⟨rfl, hb1⟩
    have HS := Lib.hid (HS.out.call hb1); clear hb1
    go_wp2_with fail
    refine (short_three s p m _ HSH.out HA.out HB.out HC.out _ _).mono ?_; rintro e w2 ⟨rfl, rfl⟩
    go_wp2
    go_ret
    exact ⟨rfl, HS.out.alloc _⟩
  · have hl := (short_iff'.1 hsh).1
    have hsl : s.length ≤ 300 := hl s (by simp)
    have hpl : p.length ≤ 300 := hl p (by simp)
    have hml : m.length ≤ 300 := hl m (by simp)
    have HSH : Hid (∀ _ : Unit, shortB [s, p, m] = true) := fun _ => hsh
    have HSL := Lib.hid hsl; have HPL := Lib.hid hpl; have HML := Lib.hid hml; clear hsh hl hsl hpl hml
    cases hsz : shortB ls
    · have HSZ := Lib.hid hsz; clear hsz
      go_enter Tryd.func8, Tryd.ntmps8
      go_wp2_with fail
      refine (head_any _ HE.out).mono ?_; rintro e w1 ⟨rfl, hb1⟩
      have HS := Lib.hid (HS.out.call hb1); clear hb1
      go_wp2_with fail
      refine (short_three s p m _ (HSH.out ()) HA.out HB.out HC.out _ _).mono ?_; rintro e w2 ⟨rfl, rfl⟩
      have HS := Lib.hid (HS.out.alloc (.cells #[.string ⟨s.toArray⟩, .string ⟨p.toArray⟩, .string ⟨m.toArray⟩] 9))
      generalize w1.alloc (.cells #[.string ⟨s.toArray⟩, .string ⟨p.toArray⟩, .string ⟨m.toArray⟩] 9) = w2 at *
      have hsc := short_any ls q len cap w2 (HL.out.since HS.out)
      rw [HSZ.out] at hsc
      have HSC := Lib.hid hsc; clear hsc
      go_wp2_with fail
      refine (HSC.out).mono ?_; rintro e w3 ⟨rfl, rfl⟩
      go_wp2
      go_ret
      exact ⟨rfl, HS.out⟩
    · by_cases h30 : 30 < len
      · have hgt : decide ((30 : Int) < (len : Int)) = true := by simp; omega
        have HSZ := Lib.hid hsz; clear hsz
        go_enter Tryd.func8, Tryd.ntmps8
        go_wp2_with fail
        refine (head_any _ HE.out).mono ?_; rintro e w1 ⟨rfl, hb1⟩
        have HS := Lib.hid (HS.out.call hb1); clear hb1
        go_wp2_with fail
        refine (short_three s p m _ (HSH.out ()) HA.out HB.out HC.out _ _).mono ?_; rintro e w2 ⟨rfl, rfl⟩
        have HS := Lib.hid (HS.out.alloc (.cells #[.string ⟨s.toArray⟩, .string ⟨p.toArray⟩, .string ⟨m.toArray⟩] 9))
        generalize w1.alloc (.cells #[.string ⟨s.toArray⟩, .string ⟨p.toArray⟩, .string ⟨m.toArray⟩] 9) = w2 at *
        have hsc := short_any ls q len cap w2 (HL.out.since HS.out)
        rw [HSZ.out] at hsc
        have HSC := Lib.hid hsc; clear hsc
        go_wp2_with fail
        refine (HSC.out).mono ?_; rintro e w3 ⟨rfl, rfl⟩
        go_wp2
        go_ret
        exact ⟨rfl, HS.out⟩
      · have hgt : decide ((30 : Int) < (len : Int)) = false := by simp; omega
        have hel : ∀ t ∈ ls, t.length ≤ 1000000 := fun t ht => by have := (short_iff'.1 hsz).1 t ht; omega
        have HEL := Lib.hid hel
        have HSZ := Lib.hid hsz; clear hsz hel
        have HLEN : Hid (ls.length = len) := HL.out.length
        obtain ⟨v1, hv1⟩ : ∃ v, verify p m ls = v := ⟨_, rfl⟩
        have HV1 := Lib.hid hv1
        have HVF : Hid (v1 = true → len = 18 ∧ ls.all isDigest = true ∧ isDigest p = true) := fun h => by
          have := verify_form (by rw [hv1, h]); rw [HLEN.out] at this; exact this
        clear hv1
        go_enter Tryd.func8, Tryd.ntmps8
        go_wp2_with fail
        refine (head_any _ HE.out).mono ?_; rintro e w1 ⟨rfl, hb1⟩
        have HS := Lib.hid (HS.out.call hb1); clear hb1
        go_wp2_with fail
        refine (short_three s p m _ (HSH.out ()) HA.out HB.out HC.out _ _).mono ?_; rintro e w2 ⟨rfl, rfl⟩
        have HS := Lib.hid (HS.out.alloc (.cells #[.string ⟨s.toArray⟩, .string ⟨p.toArray⟩, .string ⟨m.toArray⟩] 9))
        generalize w1.alloc (.cells #[.string ⟨s.toArray⟩, .string ⟨p.toArray⟩, .string ⟨m.toArray⟩] 9) = w2 at *
        have hsc := short_any ls q len cap w2 (HL.out.since HS.out)
        rw [HSZ.out] at hsc
        have HSC := Lib.hid hsc; clear hsc
        go_wp2_with fail
        refine (HSC.out).mono ?_; rintro e w3 ⟨rfl, rfl⟩
        clear HSC
        go_wp2_with fail
        refine (verify_any p m ls q len cap (by have := HML.out; omega) HLEN.out HEL.out v1 HV1.out _ (HL.out.since HS.out).rd (HE.out.below HS.out)).mono ?_; rintro e w4 ⟨rfl, hb4⟩
        have HS := Lib.hid (HS.out.call hb4); clear hb4 hgt
        go_upto_if 34 with fail
        go_cut [10] (fun v wx => ∃ _ : v = v, Hid (Since w wx))
        case first =>
          cases v1
          · go_wp2
            go_meet
            exact ⟨trivial, HS⟩
          · obtain ⟨h18, hall, hpd⟩ := HVF.out rfl
            subst h18
            have HPD := Lib.hid hpd
            have HDG : Hid (∀ k, k < 18 → isDigest (ls.getD k []) = true) := fun k hk => by
              rw [List.getD_eq_getElem?_getD, List.getElem?_eq_getElem (by rw [HLEN.out]; exact hk)]
              exact List.all_eq_true.1 hall _ (List.getElem_mem _)
            clear hpd hall
            have HRD := Lib.hid (HL.out.since HS.out).rd
            go_wp2
            go_loop [10] (fun i => ∃ k : Nat, k ≤ 18 ∧ i = .int .i64 k) (fun i => 18 - (intOf i).toNat)
            case atStart => exact ⟨0, Nat.zero_le _, rfl⟩
            case round =>
              obtain ⟨k, hk, rfl⟩ := hrel
              by_cases hlt : k < 18
              · have hdg := HDG.out k hlt
                have hdl := isDigest_length hdg
                have hcall := is_c (ls.getD k []) true hdg (by omega) w4
                rcases HRD.out with e | ⟨b7, off7, rfl, _, hc7⟩
                · have := HLEN.out; rw [e] at this; simp at this
                · have hck := hc7 k (by rw [HLEN.out]; exact hlt)
                  clear hc7
                  generalize ls.getD k [] = t at *
                  have HCC := Lib.hid hcall; clear hcall hdg
                  go_wp2_with fail
                  refine (HCC.out).mono ?_; rintro e w' ⟨rfl, rfl⟩
                  go_wp2
                  go_round
                  case rel => exact ⟨k + 1, by omega, by go_num⟩
                  case measure => simp [intOf]; omega
              · obtain rfl : k = 18 := by omega
                have hpl := isDigest_length HPD.out
                go_wp2_with fail
                refine (is_c p true HPD.out (by omega) _).mono ?_; rintro e w5 ⟨rfl, rfl⟩
                go_wp2
                go_meet
                exact ⟨trivial, HS⟩
        case rest =>
          obtain ⟨_, HS⟩ := hcut
          clear HVF HV1 HEL HLEN HSZ
          go_wp2_with fail
          refine (sign_any s m (by have := HSL.out; omega) (by have := HML.out; omega) _ (HE.out.below HS.out)).mono ?_; rintro e w5 ⟨bs, rfl, _, hr5, hb5⟩
          have HR := Lib.hid hr5.rd
          have HS := Lib.hid (HS.out.call hb5); clear hb5 hr5
          obtain ⟨pk, hpk⟩ : ∃ pk, pub s = pk := ⟨_, rfl⟩
          have HPK := Lib.hid hpk; clear hpk
          go_wp2_with fail
          refine (public_any s (by have := HSL.out; omega) pk HPK.out _ (HE.out.below HS.out)).mono ?_; rintro e w6 ⟨rfl, hb6⟩
          have HR := Lib.hid (HR.out.below (Nat.le_refl _) hb6)
          have HS := Lib.hid (HS.out.call hb6); clear hb6
          obtain ⟨y0, hy0⟩ : ∃ y, (sigOf s m).getD 0 [] = y := ⟨_, rfl⟩
          have hrd : RdS w6 (some ⟨bs, 0, none⟩) (sigOf s m) := HR.out
          have hcl : ∀ w', Below w6.heap.size w6 w' → w'.cell? ⟨bs, 0, none⟩ = some (.string ⟨y0.toArray⟩) := fun w' h => by
            have h0 := rdS_at' (hrd.below (Nat.le_refl _) h) 0 (by rw [sigOf_length]; decide)
            rw [hy0] at h0; exact h0
          have HCL := Lib.hid hcl
          have HRD := Lib.hid hrd
          clear hcl hy0 hrd HR
          go_wp2_with fail
          refine wp_region_held_drew (S := fun w' => Below w6.heap.size w6 w') (by kernel_rfl) (Below.refl _ _).drew (fun hS0 => ?_)
          refine wpAnyH_take (i := 0) (v := .bool true) rfl (by kernel_rfl) (by kernel_rfl) (by kernel_rfl) (fun _ _ _ h => h) (Or.inl ⟨by kernel_rfl, fun w _ => by go_simp⟩) hS0 ?_
          try simp only [Act.put, List.setIfInBounds_toArray, List.set_cons_zero, List.set_cons_succ]
          refine wpAnyH_take (i := 1) (v := .bool true) rfl (by kernel_rfl) (by kernel_rfl) (by kernel_rfl) (fun _ _ _ h => h) (Or.inl ⟨by kernel_rfl, fun w _ => by go_simp⟩) hS0 ?_
          try simp only [Act.put, List.setIfInBounds_toArray, List.set_cons_zero, List.set_cons_succ]
          refine wpAnyH_take (i := 2) (v := .string ⟨pk.toArray⟩) rfl (by kernel_rfl) (by kernel_rfl) (by kernel_rfl) (fun _ _ _ h => h) (Or.inl ⟨by kernel_rfl, fun w _ => by go_simp⟩) hS0 ?_
          try simp only [Act.put, List.setIfInBounds_toArray, List.set_cons_zero, List.set_cons_succ]
          refine wpAnyH_take (i := 3) (v := .string ⟨m.toArray⟩) rfl (by kernel_rfl) (by kernel_rfl) (by kernel_rfl) (fun _ _ _ h => h) (Or.inl ⟨by kernel_rfl, fun w _ => by go_simp⟩) hS0 ?_
          try simp only [Act.put, List.setIfInBounds_toArray, List.set_cons_zero, List.set_cons_succ]
          refine wpAnyH_take (i := 4) (v := .slice (some ⟨bs, 0, none⟩) 18 18) rfl (by kernel_rfl) (by kernel_rfl) (by kernel_rfl) (fun _ _ _ h => h) (Or.inl ⟨by kernel_rfl, fun w _ => by go_simp⟩) hS0 ?_
          try simp only [Act.put, List.setIfInBounds_toArray, List.set_cons_zero, List.set_cons_succ]
          refine wpAnyH_take (i := 5) (v := .slice (some ⟨bs, 0, none⟩) 17 18) rfl (by kernel_rfl) (by kernel_rfl) (by kernel_rfl) (fun _ _ _ h => h) (Or.inl ⟨by kernel_rfl, fun w _ => by go_simp⟩) hS0 ?_
          try simp only [Act.put, List.setIfInBounds_toArray, List.set_cons_zero, List.set_cons_succ]
          refine wpAnyH_ready (rs := [6]) (by kernel_rfl) (by simp) (AllReadyH.cons rfl (fun K hK => ?_) AllReadyH.nil)
          go_simp
          refine (verify_len pk m (some ⟨bs, 0, none⟩) 17 18 (by decide) _).mono ?_; rintro e wa ⟨rfl, hba⟩
          have hSa : Below w6.heap.size w6 wa := below_trans hS0 (Nat.le_refl _) hba
          refine hK.out _ _ hSa (fun _ => ?_)
          clear hK K hba
          try simp only [Act.put, List.setIfInBounds_toArray, List.set_cons_zero, List.set_cons_succ]
          refine wpAnyH_take (i := 7) (v := .bool true) rfl (by kernel_rfl) (by kernel_rfl) (by kernel_rfl) (fun _ _ _ h => h) (Or.inl ⟨by kernel_rfl, fun w _ => by go_simp⟩) hSa ?_
          try simp only [Act.put, List.setIfInBounds_toArray, List.set_cons_zero, List.set_cons_succ]
          refine wpAnyH_take (i := 8) (v := .bool true) rfl (by kernel_rfl) (by kernel_rfl) (by kernel_rfl) (fun _ _ _ h => h) (Or.inl ⟨by kernel_rfl, fun w _ => by go_simp⟩) hSa ?_
          try simp only [Act.put, List.setIfInBounds_toArray, List.set_cons_zero, List.set_cons_succ]
          refine wpAnyH_take (i := 9) (v := .bool true) rfl (by kernel_rfl) (by kernel_rfl) (by kernel_rfl) (fun _ _ _ h => h) (Or.inl ⟨by kernel_rfl, fun w _ => by go_simp⟩) hSa ?_
          try simp only [Act.put, List.setIfInBounds_toArray, List.set_cons_zero, List.set_cons_succ]
          refine wpAnyH_take (i := 10) (v := .string ⟨pk.toArray⟩) rfl (by kernel_rfl) (by kernel_rfl) (by kernel_rfl) (fun _ _ _ h => h) (Or.inl ⟨by kernel_rfl, fun w _ => by go_simp⟩) hSa ?_
          try simp only [Act.put, List.setIfInBounds_toArray, List.set_cons_zero, List.set_cons_succ]
          refine wpAnyH_take (i := 11) (v := .string ⟨m.toArray⟩) rfl (by kernel_rfl) (by kernel_rfl) (by kernel_rfl) (fun _ _ _ h => h) (Or.inl ⟨by kernel_rfl, fun w _ => by go_simp⟩) hSa ?_
          try simp only [Act.put, List.setIfInBounds_toArray, List.set_cons_zero, List.set_cons_succ]
          refine wpAnyH_take (i := 13) (v := .slice (some ⟨bs, 0, none⟩) 18 18) rfl (by kernel_rfl) (by kernel_rfl) (by kernel_rfl) (fun _ _ _ h => h) (Or.inl ⟨by kernel_rfl, fun w _ => by go_simp⟩) hSa ?_
          try simp only [Act.put, List.setIfInBounds_toArray, List.set_cons_zero, List.set_cons_succ]
          refine wpAnyH_take (i := 15) (v := .slice (some ⟨bs, 0, none⟩) 18 18) rfl (by kernel_rfl) (by kernel_rfl) (by kernel_rfl) (fun _ _ _ h => h) (Or.inl ⟨by kernel_rfl, fun w _ => by go_simp⟩) hSa ?_
          try simp only [Act.put, List.setIfInBounds_toArray, List.set_cons_zero, List.set_cons_succ]
          refine wpAnyH_take (i := 16) (v := .pointer (some ⟨bs, 0, none⟩)) rfl (by kernel_rfl) (by kernel_rfl) (by kernel_rfl) (fun _ _ _ h => h) (Or.inl ⟨by kernel_rfl, fun w _ => by go_simp⟩) hSa ?_
          try simp only [Act.put, List.setIfInBounds_toArray, List.set_cons_zero, List.set_cons_succ]
          refine wpAnyH_take (i := 17) (v := .string ⟨y0.toArray⟩) rfl (by kernel_rfl) (by kernel_rfl) (by kernel_rfl) (fun _ _ _ h => h) (Or.inl ⟨by kernel_rfl, fun w hS => by have hc := HCL.out w hS; go_simp⟩) hSa ?_
          try simp only [Act.put, List.setIfInBounds_toArray, List.set_cons_zero, List.set_cons_succ]
          refine wpAnyH_ready (rs := [12, 18]) (by kernel_rfl) (by simp) (AllReadyH.cons rfl (fun K hK => ?_) (AllReadyH.cons rfl (fun K hK => ?_) AllReadyH.nil))
          · go_simp
            have ho0 : OwnS (wa.alloc (.cells #[] 9)) w6.heap.size (.slice (some ⟨wa.heap.size, 0, none⟩) 0 0) [] := ownS_lit wa w6.heap.size [] hSa.size (Nat.zero_le _)
            have hSb : Below w6.heap.size w6 (wa.alloc (.cells #[] 9)) := hSa.alloc hSa.size _
            refine hK.out _ _ hSb (fun _ => ?_)
            clear hK K
            try simp only [Act.put, List.setIfInBounds_toArray, List.set_cons_zero, List.set_cons_succ]
            have hlt0 := (ho0.lt wa.heap.size rfl).2
            generalize wa.alloc (.cells #[] 9) = wb at *
            refine wpAnyH_ready (rs := [14, 18]) (by kernel_rfl) (by simp) (AllReadyH.cons rfl (fun K hK => ?_) (AllReadyH.cons rfl (fun K hK => ?_) AllReadyH.nil))
            · skip
              refine step_append_w _ (by kernel_rfl) (.tmp 75) (.tmp 76) rfl w6.heap.size (.slice (some ⟨wa.heap.size, 0, none⟩) 0 0) [] 0 rfl (by kernel_rfl) ho0 bs 0 18 (sigOf s m) 18 (sigOf_length _ _) (by decide) (by kernel_rfl) ?c1 ?d3 ?d5 ?_
              case c1 => exact fun j hj => rdS_at' (HRD.out.below (Nat.le_refl _) hSb) j hj
              case d3 => simp
              case d5 => exact hSb.size
              intro g cp wx hox0 hgx hbx
              have hox : OwnS wx w6.heap.size (.slice (some ⟨g, 0, none⟩) 18 cp) (sigOf s m) := hox0
              have hSx : Below w6.heap.size w6 wx := hbx _ _ (Nat.le_refl _) hSb
              clear hox0 hbx
              refine hK.out _ _ hSx (fun _ => ?_)
              clear hK K
              try simp only [Act.put, List.setIfInBounds_toArray, List.set_cons_zero, List.set_cons_succ]
              refine wpAnyH_ready (rs := [18]) (by kernel_rfl) (by simp) (AllReadyH.cons rfl (fun K hK => ?_) AllReadyH.nil)
              go_simp
              have hSX : Below w6.heap.size w6 (wx.alloc (.cells #[.string ⟨y0.toArray⟩] 9)) := hSx.alloc hSx.size _
              have hoX := hox.alloc (.cells #[.string ⟨y0.toArray⟩] 9)
              have hcX : (wx.alloc (.cells #[.string ⟨y0.toArray⟩] 9)).cell? ⟨wx.heap.size, 0, none⟩ = some (.string ⟨y0.toArray⟩) := by simp
              clear hox hgx
              refine hK.out _ _ hSX (fun _ => ?_)
              clear hK K
              try simp only [Act.put, List.setIfInBounds_toArray, List.set_cons_zero, List.set_cons_succ]
              generalize wx.alloc (.cells #[.string ⟨y0.toArray⟩] 9) = wX at *
              refine wpAnyH_ready (rs := [19]) (by kernel_rfl) (by simp) (AllReadyH.cons rfl (fun K hK => ?_) AllReadyH.nil)
              refine step_append_w _ (by kernel_rfl) (.tmp 77) (.tmp 81) rfl w6.heap.size (.slice (some ⟨g, 0, none⟩) 18 cp) (sigOf s m) 18 (sigOf_length _ _) (by kernel_rfl) hoX wx.heap.size 0 1 [y0] 1 rfl (by decide) (by kernel_rfl) ?c1 ?d3 ?d5 ?_
              case c1 =>
                intro j hj
                match j, hj with
                | 0, _ => exact hcX
              case d3 => rw [sigOf_length]; omega
              case d5 => exact hSX.size
              intro g2 cp2 wy _ _ hby
              have hSy : Below w6.heap.size w6 wy := hby _ _ (Nat.le_refl _) hSX
              clear hby hoX hcX
              refine hK.out _ _ hSy (fun _ => ?_)
              clear hK K
              try simp only [Act.put, List.setIfInBounds_toArray, List.set_cons_zero, List.set_cons_succ]
              refine wpAnyH_ready (rs := [20]) (by kernel_rfl) (by simp) (AllReadyH.cons rfl (fun K hK => ?_) AllReadyH.nil)
              go_simp
              refine (verify_len pk m (some ⟨g2, 0, none⟩) 19 cp2 (by decide) _).mono ?_; rintro e wz ⟨rfl, hbz⟩
              have hSz : Below w6.heap.size w6 wz := below_trans hSy (Nat.le_refl _) hbz
              clear hbz
              refine hK.out _ _ hSz (fun _ => ?_)
              clear hK K
              try simp only [Act.put, List.setIfInBounds_toArray, List.set_cons_zero, List.set_cons_succ]
              refine wpAnyH_take (i := 21) (v := .bool true) rfl (by kernel_rfl) (by kernel_rfl) (by kernel_rfl) (fun _ _ _ h => h) (Or.inl ⟨by kernel_rfl, fun w _ => by go_simp⟩) hSz ?_
              try simp only [Act.put, List.setIfInBounds_toArray, List.set_cons_zero, List.set_cons_succ]
              refine wpAnyH_take (i := 22) (v := .bool true) rfl (by kernel_rfl) (by kernel_rfl) (by kernel_rfl) (fun _ _ _ h => h) (Or.inl ⟨by kernel_rfl, fun w _ => by go_simp⟩) hSz ?_
              try simp only [Act.put, List.setIfInBounds_toArray, List.set_cons_zero, List.set_cons_succ]
              refine wpAnyH_take (i := 23) (v := .bool true) rfl (by kernel_rfl) (by kernel_rfl) (by kernel_rfl) (fun _ _ _ h => h) (Or.inl ⟨by kernel_rfl, fun w _ => by go_simp⟩) hSz ?_
              try simp only [Act.put, List.setIfInBounds_toArray, List.set_cons_zero, List.set_cons_succ]
              refine wpAnyH_take (i := 24) (v := .string ⟨m.toArray⟩) rfl (by kernel_rfl) (by kernel_rfl) (by kernel_rfl) (fun _ _ _ h => h) (Or.inl ⟨by kernel_rfl, fun w _ => by go_simp⟩) hSz ?_
              try simp only [Act.put, List.setIfInBounds_toArray, List.set_cons_zero, List.set_cons_succ]
              refine wpAnyH_take (i := 25) (v := .slice (some ⟨bs, 0, none⟩) 18 18) rfl (by kernel_rfl) (by kernel_rfl) (by kernel_rfl) (fun _ _ _ h => h) (Or.inl ⟨by kernel_rfl, fun w _ => by go_simp⟩) hSz ?_
              try simp only [Act.put, List.setIfInBounds_toArray, List.set_cons_zero, List.set_cons_succ]
              refine wpAnyH_ready (rs := [26]) (by kernel_rfl) (by simp) (AllReadyH.cons rfl (fun K hK => ?_) AllReadyH.nil)
              go_simp
              refine (verify_any [] m (sigOf s m) (some ⟨bs, 0, none⟩) 18 18 (by have := HML.out; omega) (sigOf_length _ _) (sigOf_le s m) false (verify_empty _ _) _ (HRD.out.below (Nat.le_refl _) hSz) (HE.out.below (HS.out.call hSz))).mono ?_; rintro e wq ⟨rfl, hbq⟩
              have hSq : Below w6.heap.size w6 wq := below_trans hSz (Nat.le_refl _) hbq
              clear hbq
              refine hK.out _ _ hSq (fun _ => ?_)
              clear hK K
              try simp only [Act.put, List.setIfInBounds_toArray, List.set_cons_zero, List.set_cons_succ]
              refine wpAnyH_take (i := 27) (v := .bool true) rfl (by kernel_rfl) (by kernel_rfl) (by kernel_rfl) (fun _ _ _ h => h) (Or.inl ⟨by kernel_rfl, fun w _ => by go_simp⟩) hSq ?_
              try simp only [Act.put, List.setIfInBounds_toArray, List.set_cons_zero, List.set_cons_succ]
              refine wpAnyH_ready (rs := [28]) (by kernel_rfl) (by simp) (AllReadyH.cons rfl (fun K hK => ?_) AllReadyH.nil)
              go_simp
              refine hK.out _ _ hSq (fun _ => ?_)
              clear hK K
              try simp only [Act.put, List.setIfInBounds_toArray, List.set_cons_zero, List.set_cons_succ]
              refine wpAnyH_ready (rs := [29]) (by kernel_rfl) (by simp) (AllReadyH.cons rfl (fun K hK => ?_) AllReadyH.nil)
              go_simp
              refine hK.out _ _ hSq (fun _ => ?_)
              clear hK K
              try simp only [Act.put, List.setIfInBounds_toArray, List.set_cons_zero, List.set_cons_succ]
              refine wpAnyH_done (by kernel_rfl) ?_ _
              go_wp2
              go_ret
              exact ⟨by first | rfl | kernel_rfl, HS.out.call hSq⟩
            · go_simp
              have hSc : Below w6.heap.size w6 (wb.alloc (.cells #[.string ⟨y0.toArray⟩] 9)) := hSb.alloc hSb.size _
              have hoc := ho0.alloc (.cells #[.string ⟨y0.toArray⟩] 9)
              have hcc : (wb.alloc (.cells #[.string ⟨y0.toArray⟩] 9)).cell? ⟨wb.heap.size, 0, none⟩ = some (.string ⟨y0.toArray⟩) := by simp
              refine hK.out _ _ hSc (fun _ => ?_)
              clear hK K
              try simp only [Act.put, List.setIfInBounds_toArray, List.set_cons_zero, List.set_cons_succ]
              generalize wb.alloc (.cells #[.string ⟨y0.toArray⟩] 9) = wc at *
              refine wpAnyH_ready (rs := [14]) (by kernel_rfl) (by simp) (AllReadyH.cons rfl (fun K hK => ?_) AllReadyH.nil)
              refine step_append_w _ (by kernel_rfl) (.tmp 75) (.tmp 76) rfl w6.heap.size (.slice (some ⟨wa.heap.size, 0, none⟩) 0 0) [] 0 rfl (by kernel_rfl) hoc bs 0 18 (sigOf s m) 18 (sigOf_length _ _) (by decide) (by kernel_rfl) ?c1 ?d3 ?d5 ?_
              case c1 => exact fun j hj => rdS_at' (HRD.out.below (Nat.le_refl _) hSc) j hj
              case d3 => simp
              case d5 => exact hSc.size
              intro g cp wX hox0 hgx hbx
              have hox : OwnS wX w6.heap.size (.slice (some ⟨g, 0, none⟩) 18 cp) (sigOf s m) := hox0
              have hSx : Below w6.heap.size w6 wX := hbx _ _ (Nat.le_refl _) hSc
              clear hox0 hbx
              have hcX : wX.cell? ⟨wb.heap.size, 0, none⟩ = some (.string ⟨y0.toArray⟩) := by
                rw [hgx.cell_far ⟨wb.heap.size, 0, none⟩ (lt_of_cell hcc) (by
                  show some wb.heap.size ≠ some wa.heap.size
                  intro e; injection e with e; omega)]
                exact hcc
              have hSX := hSx
              have hoX := hox
              clear hox hSx hgx hcc
              refine hK.out _ _ hSX (fun _ => ?_)
              clear hK K
              try simp only [Act.put, List.setIfInBounds_toArray, List.set_cons_zero, List.set_cons_succ]
              refine wpAnyH_ready (rs := [19]) (by kernel_rfl) (by simp) (AllReadyH.cons rfl (fun K hK => ?_) AllReadyH.nil)
              refine step_append_w _ (by kernel_rfl) (.tmp 77) (.tmp 81) rfl w6.heap.size (.slice (some ⟨g, 0, none⟩) 18 cp) (sigOf s m) 18 (sigOf_length _ _) (by kernel_rfl) hoX wb.heap.size 0 1 [y0] 1 rfl (by decide) (by kernel_rfl) ?c1 ?d3 ?d5 ?_
              case c1 =>
                intro j hj
                match j, hj with
                | 0, _ => exact hcX
              case d3 => rw [sigOf_length]; omega
              case d5 => exact hSX.size
              intro g2 cp2 wy _ _ hby
              have hSy : Below w6.heap.size w6 wy := hby _ _ (Nat.le_refl _) hSX
              clear hby hoX hcX
              refine hK.out _ _ hSy (fun _ => ?_)
              clear hK K
              try simp only [Act.put, List.setIfInBounds_toArray, List.set_cons_zero, List.set_cons_succ]
              refine wpAnyH_ready (rs := [20]) (by kernel_rfl) (by simp) (AllReadyH.cons rfl (fun K hK => ?_) AllReadyH.nil)
              go_simp
              refine (verify_len pk m (some ⟨g2, 0, none⟩) 19 cp2 (by decide) _).mono ?_; rintro e wz ⟨rfl, hbz⟩
              have hSz : Below w6.heap.size w6 wz := below_trans hSy (Nat.le_refl _) hbz
              clear hbz
              refine hK.out _ _ hSz (fun _ => ?_)
              clear hK K
              try simp only [Act.put, List.setIfInBounds_toArray, List.set_cons_zero, List.set_cons_succ]
              refine wpAnyH_take (i := 21) (v := .bool true) rfl (by kernel_rfl) (by kernel_rfl) (by kernel_rfl) (fun _ _ _ h => h) (Or.inl ⟨by kernel_rfl, fun w _ => by go_simp⟩) hSz ?_
              try simp only [Act.put, List.setIfInBounds_toArray, List.set_cons_zero, List.set_cons_succ]
              refine wpAnyH_take (i := 22) (v := .bool true) rfl (by kernel_rfl) (by kernel_rfl) (by kernel_rfl) (fun _ _ _ h => h) (Or.inl ⟨by kernel_rfl, fun w _ => by go_simp⟩) hSz ?_
              try simp only [Act.put, List.setIfInBounds_toArray, List.set_cons_zero, List.set_cons_succ]
              refine wpAnyH_take (i := 23) (v := .bool true) rfl (by kernel_rfl) (by kernel_rfl) (by kernel_rfl) (fun _ _ _ h => h) (Or.inl ⟨by kernel_rfl, fun w _ => by go_simp⟩) hSz ?_
              try simp only [Act.put, List.setIfInBounds_toArray, List.set_cons_zero, List.set_cons_succ]
              refine wpAnyH_take (i := 24) (v := .string ⟨m.toArray⟩) rfl (by kernel_rfl) (by kernel_rfl) (by kernel_rfl) (fun _ _ _ h => h) (Or.inl ⟨by kernel_rfl, fun w _ => by go_simp⟩) hSz ?_
              try simp only [Act.put, List.setIfInBounds_toArray, List.set_cons_zero, List.set_cons_succ]
              refine wpAnyH_take (i := 25) (v := .slice (some ⟨bs, 0, none⟩) 18 18) rfl (by kernel_rfl) (by kernel_rfl) (by kernel_rfl) (fun _ _ _ h => h) (Or.inl ⟨by kernel_rfl, fun w _ => by go_simp⟩) hSz ?_
              try simp only [Act.put, List.setIfInBounds_toArray, List.set_cons_zero, List.set_cons_succ]
              refine wpAnyH_ready (rs := [26]) (by kernel_rfl) (by simp) (AllReadyH.cons rfl (fun K hK => ?_) AllReadyH.nil)
              go_simp
              refine (verify_any [] m (sigOf s m) (some ⟨bs, 0, none⟩) 18 18 (by have := HML.out; omega) (sigOf_length _ _) (sigOf_le s m) false (verify_empty _ _) _ (HRD.out.below (Nat.le_refl _) hSz) (HE.out.below (HS.out.call hSz))).mono ?_; rintro e wq ⟨rfl, hbq⟩
              have hSq : Below w6.heap.size w6 wq := below_trans hSz (Nat.le_refl _) hbq
              clear hbq
              refine hK.out _ _ hSq (fun _ => ?_)
              clear hK K
              try simp only [Act.put, List.setIfInBounds_toArray, List.set_cons_zero, List.set_cons_succ]
              refine wpAnyH_take (i := 27) (v := .bool true) rfl (by kernel_rfl) (by kernel_rfl) (by kernel_rfl) (fun _ _ _ h => h) (Or.inl ⟨by kernel_rfl, fun w _ => by go_simp⟩) hSq ?_
              try simp only [Act.put, List.setIfInBounds_toArray, List.set_cons_zero, List.set_cons_succ]
              refine wpAnyH_ready (rs := [28]) (by kernel_rfl) (by simp) (AllReadyH.cons rfl (fun K hK => ?_) AllReadyH.nil)
              go_simp
              refine hK.out _ _ hSq (fun _ => ?_)
              clear hK K
              try simp only [Act.put, List.setIfInBounds_toArray, List.set_cons_zero, List.set_cons_succ]
              refine wpAnyH_ready (rs := [29]) (by kernel_rfl) (by simp) (AllReadyH.cons rfl (fun K hK => ?_) AllReadyH.nil)
              go_simp
              refine hK.out _ _ hSq (fun _ => ?_)
              clear hK K
              try simp only [Act.put, List.setIfInBounds_toArray, List.set_cons_zero, List.set_cons_succ]
              refine wpAnyH_done (by kernel_rfl) ?_ _
              go_wp2
              go_ret
              exact ⟨by first | rfl | kernel_rfl, HS.out.call hSq⟩
          · go_simp
            have hSb : Below w6.heap.size w6 (wa.alloc (.cells #[.string ⟨y0.toArray⟩] 9)) := hSa.alloc hSa.size _
            have hcb : (wa.alloc (.cells #[.string ⟨y0.toArray⟩] 9)).cell? ⟨wa.heap.size, 0, none⟩ = some (.string ⟨y0.toArray⟩) := by simp
            refine hK.out _ _ hSb (fun _ => ?_)
            clear hK K
            try simp only [Act.put, List.setIfInBounds_toArray, List.set_cons_zero, List.set_cons_succ]
            generalize wa.alloc (.cells #[.string ⟨y0.toArray⟩] 9) = wb at *
            refine wpAnyH_ready (rs := [12]) (by kernel_rfl) (by simp) (AllReadyH.cons rfl (fun K hK => ?_) AllReadyH.nil)
            go_simp
            have hoc : OwnS (wb.alloc (.cells #[] 9)) w6.heap.size (.slice (some ⟨wb.heap.size, 0, none⟩) 0 0) [] := ownS_lit wb w6.heap.size [] hSb.size (Nat.zero_le _)
            have hSc : Below w6.heap.size w6 (wb.alloc (.cells #[] 9)) := hSb.alloc hSb.size _
            have hcc := cell_past (.cells #[] 9) hcb
            have hlt0 : wa.heap.size < wb.heap.size := lt_of_cell hcb
            refine hK.out _ _ hSc (fun _ => ?_)
            clear hK K
            try simp only [Act.put, List.setIfInBounds_toArray, List.set_cons_zero, List.set_cons_succ]
            generalize wb.alloc (.cells #[] 9) = wc at *
            refine wpAnyH_ready (rs := [14]) (by kernel_rfl) (by simp) (AllReadyH.cons rfl (fun K hK => ?_) AllReadyH.nil)
            refine step_append_w _ (by kernel_rfl) (.tmp 75) (.tmp 76) rfl w6.heap.size (.slice (some ⟨wb.heap.size, 0, none⟩) 0 0) [] 0 rfl (by kernel_rfl) hoc bs 0 18 (sigOf s m) 18 (sigOf_length _ _) (by decide) (by kernel_rfl) ?c1 ?d3 ?d5 ?_
            case c1 => exact fun j hj => rdS_at' (HRD.out.below (Nat.le_refl _) hSc) j hj
            case d3 => simp
            case d5 => exact hSc.size
            intro g cp wX hox0 hgx hbx
            have hox : OwnS wX w6.heap.size (.slice (some ⟨g, 0, none⟩) 18 cp) (sigOf s m) := hox0
            have hSx : Below w6.heap.size w6 wX := hbx _ _ (Nat.le_refl _) hSc
            clear hox0 hbx
            have hcX : wX.cell? ⟨wa.heap.size, 0, none⟩ = some (.string ⟨y0.toArray⟩) := by
              rw [hgx.cell_far ⟨wa.heap.size, 0, none⟩ (lt_of_cell hcc) (by
                show some wa.heap.size ≠ some wb.heap.size
                intro e; injection e with e; omega)]
              exact hcc
            have hSX := hSx
            have hoX := hox
            clear hox hSx hgx hcc
            refine hK.out _ _ hSX (fun _ => ?_)
            clear hK K
            try simp only [Act.put, List.setIfInBounds_toArray, List.set_cons_zero, List.set_cons_succ]
            refine wpAnyH_ready (rs := [19]) (by kernel_rfl) (by simp) (AllReadyH.cons rfl (fun K hK => ?_) AllReadyH.nil)
            refine step_append_w _ (by kernel_rfl) (.tmp 77) (.tmp 81) rfl w6.heap.size (.slice (some ⟨g, 0, none⟩) 18 cp) (sigOf s m) 18 (sigOf_length _ _) (by kernel_rfl) hoX wa.heap.size 0 1 [y0] 1 rfl (by decide) (by kernel_rfl) ?c1 ?d3 ?d5 ?_
            case c1 =>
              intro j hj
              match j, hj with
              | 0, _ => exact hcX
            case d3 => rw [sigOf_length]; omega
            case d5 => exact hSX.size
            intro g2 cp2 wy _ _ hby
            have hSy : Below w6.heap.size w6 wy := hby _ _ (Nat.le_refl _) hSX
            clear hby hoX hcX
            refine hK.out _ _ hSy (fun _ => ?_)
            clear hK K
            try simp only [Act.put, List.setIfInBounds_toArray, List.set_cons_zero, List.set_cons_succ]
            refine wpAnyH_ready (rs := [20]) (by kernel_rfl) (by simp) (AllReadyH.cons rfl (fun K hK => ?_) AllReadyH.nil)
            go_simp
            refine (verify_len pk m (some ⟨g2, 0, none⟩) 19 cp2 (by decide) _).mono ?_; rintro e wz ⟨rfl, hbz⟩
            have hSz : Below w6.heap.size w6 wz := below_trans hSy (Nat.le_refl _) hbz
            clear hbz
            refine hK.out _ _ hSz (fun _ => ?_)
            clear hK K
            try simp only [Act.put, List.setIfInBounds_toArray, List.set_cons_zero, List.set_cons_succ]
            refine wpAnyH_take (i := 21) (v := .bool true) rfl (by kernel_rfl) (by kernel_rfl) (by kernel_rfl) (fun _ _ _ h => h) (Or.inl ⟨by kernel_rfl, fun w _ => by go_simp⟩) hSz ?_
            try simp only [Act.put, List.setIfInBounds_toArray, List.set_cons_zero, List.set_cons_succ]
            refine wpAnyH_take (i := 22) (v := .bool true) rfl (by kernel_rfl) (by kernel_rfl) (by kernel_rfl) (fun _ _ _ h => h) (Or.inl ⟨by kernel_rfl, fun w _ => by go_simp⟩) hSz ?_
            try simp only [Act.put, List.setIfInBounds_toArray, List.set_cons_zero, List.set_cons_succ]
            refine wpAnyH_take (i := 23) (v := .bool true) rfl (by kernel_rfl) (by kernel_rfl) (by kernel_rfl) (fun _ _ _ h => h) (Or.inl ⟨by kernel_rfl, fun w _ => by go_simp⟩) hSz ?_
            try simp only [Act.put, List.setIfInBounds_toArray, List.set_cons_zero, List.set_cons_succ]
            refine wpAnyH_take (i := 24) (v := .string ⟨m.toArray⟩) rfl (by kernel_rfl) (by kernel_rfl) (by kernel_rfl) (fun _ _ _ h => h) (Or.inl ⟨by kernel_rfl, fun w _ => by go_simp⟩) hSz ?_
            try simp only [Act.put, List.setIfInBounds_toArray, List.set_cons_zero, List.set_cons_succ]
            refine wpAnyH_take (i := 25) (v := .slice (some ⟨bs, 0, none⟩) 18 18) rfl (by kernel_rfl) (by kernel_rfl) (by kernel_rfl) (fun _ _ _ h => h) (Or.inl ⟨by kernel_rfl, fun w _ => by go_simp⟩) hSz ?_
            try simp only [Act.put, List.setIfInBounds_toArray, List.set_cons_zero, List.set_cons_succ]
            refine wpAnyH_ready (rs := [26]) (by kernel_rfl) (by simp) (AllReadyH.cons rfl (fun K hK => ?_) AllReadyH.nil)
            go_simp
            refine (verify_any [] m (sigOf s m) (some ⟨bs, 0, none⟩) 18 18 (by have := HML.out; omega) (sigOf_length _ _) (sigOf_le s m) false (verify_empty _ _) _ (HRD.out.below (Nat.le_refl _) hSz) (HE.out.below (HS.out.call hSz))).mono ?_; rintro e wq ⟨rfl, hbq⟩
            have hSq : Below w6.heap.size w6 wq := below_trans hSz (Nat.le_refl _) hbq
            clear hbq
            refine hK.out _ _ hSq (fun _ => ?_)
            clear hK K
            try simp only [Act.put, List.setIfInBounds_toArray, List.set_cons_zero, List.set_cons_succ]
            refine wpAnyH_take (i := 27) (v := .bool true) rfl (by kernel_rfl) (by kernel_rfl) (by kernel_rfl) (fun _ _ _ h => h) (Or.inl ⟨by kernel_rfl, fun w _ => by go_simp⟩) hSq ?_
            try simp only [Act.put, List.setIfInBounds_toArray, List.set_cons_zero, List.set_cons_succ]
            refine wpAnyH_ready (rs := [28]) (by kernel_rfl) (by simp) (AllReadyH.cons rfl (fun K hK => ?_) AllReadyH.nil)
            go_simp
            refine hK.out _ _ hSq (fun _ => ?_)
            clear hK K
            try simp only [Act.put, List.setIfInBounds_toArray, List.set_cons_zero, List.set_cons_succ]
            refine wpAnyH_ready (rs := [29]) (by kernel_rfl) (by simp) (AllReadyH.cons rfl (fun K hK => ?_) AllReadyH.nil)
            go_simp
            refine hK.out _ _ hSq (fun _ => ?_)
            clear hK K
            try simp only [Act.put, List.setIfInBounds_toArray, List.set_cons_zero, List.set_cons_succ]
            refine wpAnyH_done (by kernel_rfl) ?_ _
            go_wp2
            go_ret
            exact ⟨by first | rfl | kernel_rfl, HS.out.call hSq⟩
end Go.Proofs.YtimiminkeencgaaDoor
