/-
  The law DigestLists: its walk.
-/
import Derived.Test.YtpfbclomnkfahaaDoorLawMatchesReference
import Derived.Deep.DeepCutAuto
namespace Go.Proofs.YtpfbclomnkfahaaDoor
open Go.RowKit Go.Sort Foyer.Digest

theorem rjoined_c (ls : List (List UInt8)) (m : List UInt8) (k : Nat) (hk : ls.length = k) (h : joined ls = m) (p : Option Addr) (cap : Nat) (w : World) (hr : RdS w p ls) (hl : k ≤ 1000) (ht : ∀ t ∈ ls, t.length ≤ 1000000) :
    Calls Tryd.prog 23 #[.slice p k cap] w fun e w' => e = .returned (.string ⟨m.toArray⟩) ∧ Below w.heap.size w w' := by
  rw [← h, ← hk]; exact rjoined_any ls p cap w hr (by omega) ht
theorem rsame_c (a b : List (List UInt8)) (r : Bool) (h : (a == b) = r) (i j : Nat) (hi : a.length = i) (hj : b.length = j) (p q : Option Addr) (c1 c2 : Nat) (w : World) (ha : RdS w p a) (hb : RdS w q b) (hl : i ≤ 1000) :
    Calls Tryd.prog 24 #[.slice p i c1, .slice q j c2] w fun e w' => e = .returned (.bool r) ∧ Below w.heap.size w w' := by
  rw [← h, ← hi, ← hj]
  exact (rsame_any a b p q c1 c2 w ha hb (by omega)).mono fun e w' ⟨he, n, hw⟩ => ⟨he, by rw [hw]; exact below_drewN (Below.refl _ _) n⟩
/-- The statement about one element. -/
theorem lists_one (x y : List UInt8) (n : Nat) (hx : x.length = n) (hy : y.length = n) (hn : n ≤ 9) :
    (listSum [x] == listSum [x.take (min n 6) ++ y.drop (min n 6)]) = (x == x.take (min n 6) ++ y.drop (min n 6)) := by
  have hl : x.length = (x.take (min n 6) ++ y.drop (min n 6)).length := by rw [List.length_append, List.length_take, List.length_drop]; omega
  have hiff := one_list hl (by omega) (fun i hi => by
    simp only [List.getD_eq_getElem?_getD]
    by_cases hin : i < n
    · rw [List.getElem?_append_left (by rw [List.length_take]; omega), List.getElem?_take, if_pos (by omega)]
    · rw [List.getElem?_eq_none (by omega), List.getElem?_eq_none (by omega)])
  rw [Bool.eq_iff_iff]
  simp only [beq_iff_eq]
  exact hiff
theorem lists_same (ls ms : List (List UInt8)) : (joined ls == joined ms) = (ls == ms) := by
  rw [Bool.eq_iff_iff]; simp only [beq_iff_eq]
  exact ⟨joined_inj, fun h => by rw [h]⟩
theorem lists_short (ls ms : List (List UInt8)) (h1 : (joined ls).length ≤ 7) (h2 : (joined ms).length ≤ 7) : (listSum ls == listSum ms) = (ls == ms) := by
  rw [Bool.eq_iff_iff]; simp only [beq_iff_eq]
  unfold listSum
  rw [short_iff h1 h2]
  exact ⟨joined_inj, fun h => by rw [h]⟩

set_option maxRecDepth 100000 in
set_option maxHeartbeats 20000000 in
theorem lists_walk (p : Option Addr) (len cap : Nat) (ls : List (List UInt8)) (q : Option Addr) (len2 cap2 : Nat) (ms : List (List UInt8)) (a b : ByteArray) (w : World) (hl : IsStrs w p len ls) (hm : IsStrs w q len2 ms) (ha : a.size ≤ maxLen) (hb : b.size ≤ maxLen) (hE : Env w) :
    Calls Tryd.prog 9 #[.slice p len cap, .slice q len2 cap2, .string a, .string b] w fun e w' => e = .returned (.bool true) ∧ Below w.heap.size w w' := by
  unfold maxLen at ha hb
  have HE := Lib.hid hE; clear hE
  have HL := Lib.hid hl; clear hl
  have HM := Lib.hid hm; clear hm
  have HS : Hid (Since w w) := Below.refl _ _
  cases hf : few ls
  · have hfew := fun W (h : Since w W) => few_any ls p len cap W (HL.out.since h)
    rw [hf] at hfew
    have HF := Lib.hid hfew; clear hfew hf
    go_enter Tryd.func9, Tryd.ntmps9
    go_wp2_with fail
    refine (head_any _ HE.out).mono ?_; rintro e w1 ⟨rfl, hb1⟩
    have HS := Lib.hid (HS.out.call hb1); clear hb1
    go_wp2_with fail
    refine (HF.out _ HS.out).mono ?_; rintro e w2 ⟨rfl, rfl⟩
    go_wp2
    go_ret
    exact ⟨rfl, HS.out⟩
  · have hfew := fun W (h : Since w W) => few_any ls p len cap W (HL.out.since h)
    rw [hf] at hfew
    have hlen1 : ls.length ≤ 30 := (few_iff.1 hf).2
    have HF := Lib.hid hfew; have HEA := Lib.hid (each_of_few hf); have HLE := Lib.hid hlen1
    clear hfew hf hlen1
    cases hf2 : few ms
    · have hfew := fun W (h : Since w W) => few_any ms q len2 cap2 W (HM.out.since h)
      rw [hf2] at hfew
      have HF2 := Lib.hid hfew; clear hfew hf2
      go_enter Tryd.func9, Tryd.ntmps9
      go_wp2_with fail
      refine (head_any _ HE.out).mono ?_; rintro e w1 ⟨rfl, hb1⟩
      have HS := Lib.hid (HS.out.call hb1); clear hb1
      go_wp2_with fail
      refine (HF.out _ HS.out).mono ?_; rintro e w2 ⟨rfl, rfl⟩
      go_wp2_with fail
      refine (HF2.out _ HS.out).mono ?_; rintro e w2 ⟨rfl, rfl⟩
      go_wp2
      go_ret
      exact ⟨rfl, HS.out⟩
    · have hfew := fun W (h : Since w W) => few_any ms q len2 cap2 W (HM.out.since h)
      rw [hf2] at hfew
      have hlen2 : ms.length ≤ 30 := (few_iff.1 hf2).2
      have HF2 := Lib.hid hfew; have HEA2 := Lib.hid (each_of_few hf2); have HLE2 := Lib.hid hlen2
      clear hfew hf2 hlen2
      obtain ⟨n, hn⟩ : ∃ n : Nat, n = min (min a.size b.size) 9 := ⟨_, rfl⟩
      have hna : n ≤ a.size := by omega
      have hnb : n ≤ b.size := by omega
      have hn9 : n ≤ 9 := by omega
      have HN := Lib.hid hn; clear hn
      obtain ⟨x, hx1, hx2⟩ := part_list a 0 n
      have hxn : x.length = n := by rw [hx2]; simp; omega
      subst hxn
      obtain ⟨y, hy1, hy2⟩ := part_list b 0 x.length
      have hyn : y.length = x.length := by rw [hy2]; simp; omega
      obtain ⟨m, hm⟩ : ∃ m : Nat, m = min x.length 6 := ⟨_, rfl⟩
      have hmx : m ≤ x.length := by omega
      have hm6 : m ≤ 6 := by omega
      obtain ⟨h1, hh1, hh2⟩ := part_list ⟨x.toArray⟩ 0 m
      obtain ⟨t1, ht1, ht2⟩ := part_list b m x.length
      have hh3 : h1 = x.take m := by rw [hh2]; rfl
      have ht3 : t1 = y.drop m := by rw [ht2, hy2]; simp
      have hmin : min (x.length : Int) 6 = (m : Int) := by omega
      have hone := lists_one x y x.length rfl hyn (by omega)
      rw [← hm, ← hh3, ← ht3] at hone
      obtain ⟨T, hT⟩ : ∃ T, T = h1 ++ t1 := ⟨_, rfl⟩
      rw [← hT] at hone
      have happ : (⟨h1.toArray⟩ : ByteArray) ++ ⟨t1.toArray⟩ = ⟨T.toArray⟩ := by rw [str_append, hT]
      obtain ⟨u1, hu1⟩ : ∃ s, listSum [x] = s := ⟨_, rfl⟩
      obtain ⟨u2, hu2⟩ : ∃ s, listSum [T] = s := ⟨_, rfl⟩
      rw [hu1, hu2] at hone
      have hTl : T.length ≤ 1000 := by
        rw [hT, List.length_append, hh3, ht3, List.length_take, List.length_drop]; omega
      have hh1l : h1.length ≤ 6 := by rw [hh3, List.length_take]; omega
      have ht1l : t1.length ≤ 9 := by rw [ht3, List.length_drop]; omega
      have HX1 := Lib.hid hx1; have HH1 := Lib.hid hh1; have HT1 := Lib.hid ht1; have HMIN := Lib.hid hmin; have HONE := Lib.hid hone; have HAPP := Lib.hid happ; have HU1 := Lib.hid hu1; have HU2 := Lib.hid hu2; have HTL := Lib.hid hTl
      clear hx1 hx2 hy1 hy2 hyn hm hh1 hh2 ht1 ht2 hh3 ht3 hmin hone hT happ hu1 hu2 hTl
      have hll : len ≤ 1000 := by have := HLE.out; have := HL.out.length; omega
      have hlm : len2 ≤ 1000 := by have := HLE2.out; have := HM.out.length; omega
      obtain ⟨ja, hja⟩ : ∃ j, joined ls = j := ⟨_, rfl⟩
      obtain ⟨jb, hjb⟩ : ∃ j, joined ms = j := ⟨_, rfl⟩
      obtain ⟨s1, hs1⟩ : ∃ s, listSum ls = s := ⟨_, rfl⟩
      obtain ⟨s2, hs2⟩ : ∃ s, listSum ms = s := ⟨_, rfl⟩
      obtain ⟨r, hr⟩ : ∃ r, (ls == ms) = r := ⟨_, rfl⟩
      have hsa : sum ja = s1 := by rw [← hs1, ← hja]; rfl
      have hjr : (ja == jb) = r := by rw [← hja, ← hjb, lists_same, hr]
      have hsh : ja.length ≤ 7 → jb.length ≤ 7 → (s1 == s2) = r := fun h1 h2 => by
        rw [← hs1, ← hs2, ← hr]; exact lists_short ls ms (by rw [hja]; exact h1) (by rw [hjb]; exact h2)
      have hjl : ja.length ≤ 1000000000 := by
        have := joined_take_length ls HEA.out ls.length (Nat.le_refl _)
        rw [List.take_length, hja] at this
        have := HLE.out; omega
      have HJA := Lib.hid hja; have HJB := Lib.hid hjb; have HS1 := Lib.hid hs1; have HS2 := Lib.hid hs2; have HR := Lib.hid hr; have HSA := Lib.hid hsa; have HJR := Lib.hid hjr; have HSH := Lib.hid hsh; have HJL := Lib.hid hjl
      have hrr : (r != r) = false := by simp
      clear hja hjb hs1 hs2 hr hsa hjr hsh hjl
      go_enter Tryd.func9, Tryd.ntmps9
      go_wp2_with fail
      refine (head_any _ HE.out).mono ?_; rintro e w1 ⟨rfl, hb1⟩
      have HS := Lib.hid (HS.out.call hb1); clear hb1
      go_wp2_with fail
      refine (HF.out _ HS.out).mono ?_; rintro e w2 ⟨rfl, rfl⟩
      go_wp2_with fail
      refine (HF2.out _ HS.out).mono ?_; rintro e w2 ⟨rfl, rfl⟩
      go_wp2_with fail
      refine (rjoined_c ls ja len HL.out.length HJA.out p cap _ (HL.out.since HS.out).rd hll HEA.out).mono ?_; rintro e w2 ⟨rfl, hb1⟩
      have HS := Lib.hid (HS.out.call hb1); clear hb1
      go_wp2_with fail
      refine (rjoined_c ms jb len2 HM.out.length HJB.out q cap2 _ (HM.out.since HS.out).rd hlm HEA2.out).mono ?_; rintro e w3 ⟨rfl, hb1⟩
      have HS := Lib.hid (HS.out.call hb1); clear hb1
      go_wp2_with fail
      refine (list_c ls s1 len HL.out.length HS1.out p cap _ (HL.out.since HS.out).rd hll HEA.out (HE.out.below HS.out)).mono ?_; rintro e w4 ⟨rfl, hb1⟩
      have HS := Lib.hid (HS.out.call hb1); clear hb1
      go_wp2_with fail
      refine (sum_c ja s1 HSA.out (by have := HJL.out; omega) _ (HE.out.below HS.out).hex).mono ?_; rintro e w5 ⟨rfl, hb1⟩
      have HS := Lib.hid (HS.out.call hb1); clear hb1
      have hjr := HJR.out
      go_wp2_with fail
      refine (rsame_c ls ms r HR.out len len2 HL.out.length HM.out.length p q cap cap2 _ (HL.out.since HS.out).rd (HM.out.since HS.out).rd hll).mono ?_; rintro e w6 ⟨rfl, hb1⟩
      have HS := Lib.hid (HS.out.call hb1); clear hb1
      go_upto_region 8 with (fail)
      go_cut [59] (fun v wx => v = .bool false ∧ Hid (Since w wx))
      case first =>
        by_cases h1 : ja.length ≤ 7
        · by_cases h2 : jb.length ≤ 7
          · have hss := HSH.out h1 h2
            have HSS := Lib.hid hss; clear hss
            go_wp2_with fail
            refine (list_c ls s1 len HL.out.length HS1.out p cap _ (HL.out.since HS.out).rd hll HEA.out (HE.out.below HS.out)).mono ?_; rintro e w7 ⟨rfl, hb1⟩
            have HS := Lib.hid (HS.out.call hb1); clear hb1
            go_wp2_with fail
            refine (list_c ms s2 len2 HM.out.length HS2.out q cap2 _ (HM.out.since HS.out).rd hlm HEA2.out (HE.out.below HS.out)).mono ?_; rintro e w8 ⟨rfl, hb1⟩
            have HS := Lib.hid (HS.out.call hb1); clear hb1
            have hss := HSS.out
            go_wp2_with fail
            refine (rsame_c ls ms r HR.out len len2 HL.out.length HM.out.length p q cap cap2 _ (HL.out.since HS.out).rd (HM.out.since HS.out).rd hll).mono ?_; rintro e w9 ⟨rfl, hb1⟩
            have HS := Lib.hid (HS.out.call hb1); clear hb1
            go_wp2
            go_meet
            exact ⟨rfl, HS⟩
          · have h3 : decide ((jb.length : Int) ≤ 7) = false := by simp; omega
            go_wp2
            go_meet
            exact ⟨rfl, HS⟩
        · have h3 : decide ((ja.length : Int) ≤ 7) = false := by simp; omega
          go_wp2
          go_meet
          exact ⟨rfl, HS⟩
      case rest =>
        obtain ⟨rfl, HSc⟩ := hcut
        clear hjr hrr
        go_upto_region 10 with (fail)
        go_cut [12] (fun v wx => v = .int .i64 x.length ∧ wx = wc)
        case first =>
          go_wp2
          all_goals go_meet
          all_goals exact ⟨by have := HN.out; congr 1; omega, rfl⟩
        case rest =>
          obtain ⟨rfl, rfl⟩ := hcut
          have hx1 := HX1.out
          have hxs : (⟨x.toArray⟩ : ByteArray).size = x.length := size_of_list _
          go_wp2
          have hmin := HMIN.out
          have hh1 := HH1.out
          have ht1 := HT1.out
          have happ := HAPP.out
          go_quiet (fail)
          have HS : Hid (Since w (wc.drewN nq)) := below_drewN HSc.out nq
          have hone := HONE.out
          clear hmin hh1 ht1 happ hx1 hxs
          generalize wc.drewN nq = wd at *
          have hxl9 : x.length ≤ 1000000 := by omega
          have HXL := Lib.hid hxl9; clear hxl9
          go_wp2_with fail
          refine (list_c [x] u1 1 rfl HU1.out _ _ _ (rd_one _ _ _) (by decide) (by intro t ht; rw [List.mem_singleton.1 ht]; exact HXL.out) (HE.out.below (HS.out.alloc _))).mono ?_; rintro e w7 ⟨rfl, hb1⟩
          have HS := Lib.hid ((HS.out.alloc _).call hb1); clear hb1
          go_wp2_with fail
          refine (list_c [T] u2 1 rfl HU2.out _ _ _ (rd_one _ _ _) (by decide) (by intro t ht; rw [List.mem_singleton.1 ht]; have := HTL.out; omega) (HE.out.below (HS.out.alloc _))).mono ?_; rintro e w8 ⟨rfl, hb1⟩
          have HS := Lib.hid ((HS.out.alloc _).call hb1); clear hb1
          go_wp2
          go_ret
          exact ⟨congrArg (fun z => Ending.returned (Value.bool z)) (by first | rfl | (rw [HONE.out]; simp) | simp [HONE.out]), HS.out⟩
end Go.Proofs.YtpfbclomnkfahaaDoor
