/-
  The walk of Parse.
-/
import Derived.Test.YtdjilieadhnhcaaDoorWalkText
namespace Go.Proofs.YtdjilieadhnhcaaDoor
open Go.RowKit Go.Sort Foyer.Money

theorem cut_call (s : ByteArray) (w : World) (hs : s.size < 4294967281) (hE : Env w) :
    Calls Tryd.prog 33 #[.string s, .string ⟨#[46]⟩] w fun e w' => e = .returned (.tuple #[.string ⟨(Lib.cut s.data.toList [46]).1.toArray⟩, .string ⟨(Lib.cut s.data.toList [46]).2.1.toArray⟩, .bool (Lib.cut s.data.toList [46]).2.2]) ∧ ∃ n, w' = w.drewN n := by
  obtain ⟨m, hm⟩ := hE.ml
  exact Tryd.strings_Cut s ⟨#[46]⟩ m w hs hm

/-- strconv.Atoi, whatever the text of at most 18 bytes. -/
theorem atoi_yes (s : ByteArray) (n : Int) (w : World) (hl : s.size ≤ 18) (h : Lib.atoi s.data.toList = some n) :
    Calls Tryd.prog 34 #[.string s] w fun e w' => e = .returned (.tuple #[.int .i64 n, .nilIface]) ∧ Below w.heap.size w w' :=
  (Tryd.strconv_Atoi s n hl h w).mono fun _ _ ⟨he, t, hw⟩ => ⟨he, by rw [hw]; exact Lib.bytesWorld_below w _ t⟩
theorem atoi_no (s : ByteArray) (w : World) (hl : s.size ≤ 18) (h : Lib.atoi s.data.toList = none) (hE : Env w) :
    Calls Tryd.prog 34 #[.string s] w fun e w' => (∃ t p, e = .returned (.tuple #[.int .i64 0, .iface t p])) ∧ Below w.heap.size w w' := by
  obtain ⟨te, pe, hev⟩ := hE.es
  exact (Tryd.strconv_Atoi_err s hl h _ w hev (Or.inr ⟨te, pe, rfl⟩)).mono fun _ _ ⟨N, he, _, _, hb⟩ => ⟨⟨_, _, he⟩, hb⟩

theorem cut_le (s : List UInt8) : ((Lib.cut s [46]).1 ++ (Lib.cut s [46]).2.1).length ≤ s.length := by
  unfold Lib.cut; split
  · simp; omega
  · simp

theorem parse_long (s : ByteArray) (w : World) (h : 12 < s.data.toList.length) :
    Calls Tryd.prog 17 #[.string s] w fun e w' => e = .returned (.tuple #[.int .i64 (parse s.data.toList).1, .int .i64 (parse s.data.toList).2]) ∧ Below w.heap.size w w' := by
  have hp : parse s.data.toList = (0, 4) := by unfold parse; rw [if_pos h]
  rw [hp]
  have hs : 12 < (s.size : Int) := by have : s.size = s.data.toList.length := by simp
                                      omega
  clear h hp
  go_enter Tryd.func17, Tryd.ntmps17
  go_wp2
  go_ret2
  exact ⟨rfl, Below.refl _ _⟩

theorem parse_short (s : ByteArray) (w : World) (h : ¬ 12 < s.data.toList.length) (hE : Env w) :
    Calls Tryd.prog 17 #[.string s] w fun e w' => e = .returned (.tuple #[.int .i64 (parse s.data.toList).1, .int .i64 (parse s.data.toList).2]) ∧ Below w.heap.size w w' := by
  have hsz : s.size = s.data.toList.length := by simp
  have hs : (s.size : Int) ≤ 12 := by omega
  have hcut := cut_le s.data.toList
  have HE := Lib.hid hE; clear hE
  have hlen : (Lib.cut s.data.toList [46]).1.length + (Lib.cut s.data.toList [46]).2.1.length ≤ 12 := by
    rw [List.length_append] at hcut; omega
  generalize ha : (Lib.cut s.data.toList [46]).1 = a at *
  generalize hb : (Lib.cut s.data.toList [46]).2.1 = b at *
  generalize hc : (Lib.cut s.data.toList [46]).2.2 = c at *
  have hS : (⟨a.toArray⟩ : ByteArray) ++ ⟨b.toArray⟩ = ⟨(a ++ b).toArray⟩ := str_append a b
  have HS := Lib.hid hS; clear hS
  have Ha := Lib.hid ha; clear ha
  have Hb := Lib.hid hb; clear hb
  have Hc := Lib.hid hc; clear hc
  have hP : parse s.data.toList = (0, 4) ∧ Lib.atoi (a ++ b) = none ∨ ∃ v, Lib.atoi (a ++ b) = some v ∧ (text v = s.data.toList ∧ parse s.data.toList = (v, 0) ∨ text v ≠ s.data.toList ∧ parse s.data.toList = (0, 4)) := by
    unfold parse; rw [if_neg h, Ha.out, Hb.out]
    cases hk : Lib.atoi (a ++ b) with
    | none => exact Or.inl ⟨rfl, rfl⟩
    | some v =>
      refine Or.inr ⟨v, rfl, ?_⟩
      by_cases ht : text v = s.data.toList
      · exact Or.inl ⟨ht, by simp only [if_pos ht]⟩
      · exact Or.inr ⟨ht, by simp only [if_neg ht]⟩
  have Hsz := Lib.hid hsz; clear hsz
  clear h hcut
  have hab : (⟨(a ++ b).toArray⟩ : ByteArray).size ≤ 18 := by
    have : (⟨(a ++ b).toArray⟩ : ByteArray).size = (a ++ b).length := by simp [ByteArray.size]
    rw [this, List.length_append]; omega
  have hal : (⟨(a ++ b).toArray⟩ : ByteArray).data.toList = a ++ b := rfl
  have Hal := Lib.hid hal; clear hal
  have Hab := Lib.hid hab; clear hab
  have HPd := Lib.hid hP; clear hP
  go_enter Tryd.func17, Tryd.ntmps17
  go_wp2_with fail
  refine (cut_call s _ (by omega) HE.out).mono ?_; rintro e w' ⟨rfl, n, rfl⟩
  rw [Ha.out, Hb.out, Hc.out]
  have HE' := Lib.hid (HE.out.below (below_drewN (Below.refl _ _) n))
  go_wp2_with fail
  rw [HS.out]
  rcases HPd.out with ⟨hp, hk⟩ | ⟨v, hk, hv⟩
  · have HP := Lib.hid hp; have Hk := Lib.hid hk; clear hp hk
    refine (atoi_no _ _ Hab.out Hk.out HE'.out).mono ?_; rintro e w1 ⟨⟨t, p, rfl⟩, hb1⟩
    have Hb1 := Lib.hid ((below_drewN (Below.refl _ _) n).trans hb1); clear hb1
    go_wp2
    go_ret2
    exact ⟨by rw [HP.out]; rfl, Hb1.out⟩
  · have Hk := Lib.hid hk; have Hvv := Lib.hid hv; clear hk hv
    refine (atoi_yes _ v _ Hab.out Hk.out).mono ?_; rintro e w1 ⟨rfl, hb1⟩
    have HE1 := Lib.hid (HE'.out.below hb1)
    have Hb1 := Lib.hid ((below_drewN (Below.refl _ _) n).trans hb1); clear hb1
    go_wp2_with fail
    refine (text_any v _ HE1.out).mono ?_; rintro e w2 ⟨rfl, hb2⟩
    have Hb2 := Lib.hid (Hb1.out.trans (hb2.mono Hb1.out.size)); clear hb2
    rcases Hvv.out with ⟨ht, hp⟩ | ⟨ht, hp⟩
    · have HP := Lib.hid hp; clear hp
      go_wp2
      go_ret2
      exact ⟨by rw [HP.out]; rfl, Hb2.out⟩
    · have HP := Lib.hid hp; clear hp
      have htb : (text v == s.toList) = false := by rw [beq_eq_false_iff_ne, ByteArray.toList_eq]; exact ht
      clear ht
      go_wp2
      go_ret2
      exact ⟨by rw [HP.out]; rfl, Hb2.out⟩

theorem parse_any (s : ByteArray) (w : World) (hE : Env w) :
    Calls Tryd.prog 17 #[.string s] w fun e w' => e = .returned (.tuple #[.int .i64 (parse s.data.toList).1, .int .i64 (parse s.data.toList).2]) ∧ Below w.heap.size w w' := by
  by_cases h : 12 < s.data.toList.length
  · exact parse_long s w h
  · exact parse_short s w h hE
end Go.Proofs.YtdjilieadhnhcaaDoor
