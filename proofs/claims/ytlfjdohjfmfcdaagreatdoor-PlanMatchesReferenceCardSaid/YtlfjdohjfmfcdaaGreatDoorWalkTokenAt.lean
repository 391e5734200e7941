/-
  The walks of comparisons and of what begins at an offset.
-/
import Derived.Test.YtlfjdohjfmfcdaaGreatDoorWalkNumber
namespace Go.Proofs.YtlfjdohjfmfcdaaGreatDoor
open Go.RowKit Foyer.Lexer

/-- What a comparison's byte begins. -/
def cmpTok (s : List UInt8) : Got := match s with | [] => .bad 5 | c :: r => if r.head? = some 61 then .good 3 2 0 else if c.toNat = 33 then .bad 5 else .good 3 1 0

set_option maxRecDepth 100000 in
theorem comparisonAt_any (t : ByteArray) (ht : t.size ≤ 1000000) (b p : Nat) (hp : p < t.size) (w : World) (hs : Src w b t) :
    Calls Tryz.prog 50 #[.pointer (some ⟨b, 0, none⟩), .int .i64 p] w fun x w' => x = .returned (gotV (t.data.toList.drop p) p (cmpTok (t.data.toList.drop p))) ∧ Below w.heap.size w w' := by
  have hlt := hs.lt
  have HS : Hid (Since w w) := Below.refl _ _
  have htx := hs.text
  have hdr := drop_byte t p hp
  have htok := fun (e : Nat) (he : p ≤ e) (he2 : e ≤ t.size) w' (h : Src w' b t) => token_any t ht b p e 3 he he2 w' h
  obtain ⟨V, hV⟩ : ∃ V, gotV (t.data.toList.drop p) p (cmpTok (t.data.toList.drop p)) = V := ⟨_, rfl⟩
  rw [hV]
  have hV2 : gotV (t.data.toList.drop p) p (if (t.data.toList.drop (p + 1)).head? = some 61 then .good 3 2 0 else if t[p].toNat = 33 then .bad 5 else .good 3 1 0) = V := by
    rw [← hV]
    congr 1
    rw [hdr]; rfl
  have HF1 := Lib.hid (Four.new w (.int .i64 0) (.string ⟨#[]⟩) (.int .i64 0) (.int .i64 0) 67)
  have HB1 : Hid (Since w (w.alloc (Obj.cells #[Value.int IntKind.i64 0, Value.string { data := #[] }, Value.int IntKind.i64 0, Value.int IntKind.i64 0] 67))) := Lib.hid (HS.out.alloc _)
  have HSRC := Lib.hid hs; have HTOK := Lib.hid htok; have HDR := Lib.hid hdr
  clear hs htok hV hdr
  by_cases h1 : p + 1 < t.size
  · have hd1 : decide ((p : Int) + 1 < (t.size : Int)) = true := by simp; omega
    have hdr1 := drop_byte t (p + 1) h1
    rw [hdr1, List.head?_cons] at hV2
    by_cases h61 : t[p + 1].toNat = 61
    · have e61 : t[p + 1] = 61 := by rw [← UInt8.toNat_inj]; exact h61
      rw [if_pos (by rw [e61])] at hV2
      have HV := Lib.hid hV2
      have hd61 : (((t[p + 1].toNat : Nat) : Int) == 61) = true := by simp [h61]
      clear hV2 e61 hdr1 h61
      go_enter Tryz.func50, Tryz.ntmps50
      go_wp2_with fail
      refine (HTOK.out (p + 2) (Nat.le_add_right _ _) (by omega) _ (HSRC.out.since HB1.out)).mono ?_; rintro e w2 ⟨rfl, hb2⟩
      have HB2 := Lib.hid (HB1.out.call hb2)
      have hf2 := HF1.out.below (by simp) hb2
      obtain ⟨⟨d0, d1, d2, d3, h0, h1, h2, h3⟩, f0, f1, f2, f3⟩ := hf2.facts
      have HF2 := Lib.hid hf2
      clear hf2 hb2
      go_wp2
      refine bodyPost_ret (results_tok2 rfl _ _ w.heap.size _ _ _ _ _ rfl rfl (HF2.out.range _ _ _ _)) rfl ⟨?_, since_set4 HB2.out (Nat.le_refl _) _ _ _ _⟩
      rw [← HV.out, gotV_good]
      rfl
    · have e61 : ¬ t[p + 1] = 61 := fun e => h61 (by rw [e]; rfl)
      rw [if_neg (by simpa using e61)] at hV2
      have hd61 : (((t[p + 1].toNat : Nat) : Int) == 61) = false := by simp; omega
      clear e61 hdr1 h61
      by_cases h33 : t[p].toNat = 33
      · rw [if_pos h33] at hV2
        have hd33 : (((t[p].toNat : Nat) : Int) == 33) = true := by simp [h33]
        have HV := Lib.hid hV2
        clear hV2 h33
        go_enter Tryz.func50, Tryz.ntmps50
        go_wp2
        refine bodyPost_ret (results_tok2 rfl _ _ w.heap.size (.int .i64 0) (.string ⟨#[]⟩) (.int .i64 0) (.int .i64 p) _ rfl rfl (range_four (by simp) (by simp) (by simp) (by simp))) rfl ⟨?_, HS.out.alloc _⟩
        rw [← HV.out]
        rfl
      · rw [if_neg h33] at hV2
        have hd33 : (((t[p].toNat : Nat) : Int) == 33) = false := by simp; omega
        have HV := Lib.hid hV2
        clear hV2 h33
        go_enter Tryz.func50, Tryz.ntmps50
        go_wp2_with fail
        refine (HTOK.out (p + 1) (Nat.le_add_right _ _) hp _ (HSRC.out.since HB1.out)).mono ?_; rintro e w2 ⟨rfl, hb2⟩
        have HB2 := Lib.hid (HB1.out.call hb2)
        have hf2 := HF1.out.below (by simp) hb2
        obtain ⟨⟨d0, d1, d2, d3, h0, h1, h2, h3⟩, f0, f1, f2, f3⟩ := hf2.facts
        have HF2 := Lib.hid hf2
        clear hf2 hb2
        go_wp2
        refine bodyPost_ret (results_tok2 rfl _ _ w.heap.size _ _ _ _ _ rfl rfl (HF2.out.range _ _ _ _)) rfl ⟨?_, since_set4 HB2.out (Nat.le_refl _) _ _ _ _⟩
        rw [← HV.out, gotV_good]
        rfl
  · have hd1 : decide ((p : Int) + 1 < (t.size : Int)) = false := by simp; omega
    rw [drop_end t (p + 1) (by omega), if_neg (by simp)] at hV2
    by_cases h33 : t[p].toNat = 33
    · rw [if_pos h33] at hV2
      have hd33 : (((t[p].toNat : Nat) : Int) == 33) = true := by simp [h33]
      have HV := Lib.hid hV2
      clear hV2 h33
      go_enter Tryz.func50, Tryz.ntmps50
      go_wp2
      refine bodyPost_ret (results_tok2 rfl _ _ w.heap.size (.int .i64 0) (.string ⟨#[]⟩) (.int .i64 0) (.int .i64 p) _ rfl rfl (range_four (by simp) (by simp) (by simp) (by simp))) rfl ⟨?_, HS.out.alloc _⟩
      rw [← HV.out]
      rfl
    · rw [if_neg h33] at hV2
      have hd33 : (((t[p].toNat : Nat) : Int) == 33) = false := by simp; omega
      have HV := Lib.hid hV2
      clear hV2 h33
      go_enter Tryz.func50, Tryz.ntmps50
      go_wp2_with fail
      refine (HTOK.out (p + 1) (Nat.le_add_right _ _) hp _ (HSRC.out.since HB1.out)).mono ?_; rintro e w2 ⟨rfl, hb2⟩
      have HB2 := Lib.hid (HB1.out.call hb2)
      have hf2 := HF1.out.below (by simp) hb2
      obtain ⟨⟨d0, d1, d2, d3, h0, h1, h2, h3⟩, f0, f1, f2, f3⟩ := hf2.facts
      have HF2 := Lib.hid hf2
      clear hf2 hb2
      go_wp2
      refine bodyPost_ret (results_tok2 rfl _ _ w.heap.size _ _ _ _ _ rfl rfl (HF2.out.range _ _ _ _)) rfl ⟨?_, since_set4 HB2.out (Nat.le_refl _) _ _ _ _⟩
      rw [← HV.out, gotV_good]
      rfl
end Go.Proofs.YtlfjdohjfmfcdaaGreatDoor
