/-
  The document's own next token: numbers.
-/
import Derived.Test.YtlfjdohjfmfcdaaGreatDoorRefNext
import Derived.StillTailTactics
namespace Go.Proofs.YtlfjdohjfmfcdaaGreatDoor
open Go.RowKit Foyer.Lexer

theorem next_word_at (t : ByteArray) (q : Nat) : nextWord (t.data.toList.drop q) = if h : q < t.size then isWord t[q] else false := by
  split
  · rename_i h; rw [drop_byte t q h]; rfl
  · rename_i h; rw [drop_end t q (by omega)]; rfl

set_option maxRecDepth 100000 in
set_option maxHeartbeats 1000000 in
theorem next_number (t : ByteArray) (ht : t.size ≤ 1000000) (p : Nat) (hp : p < t.size) (hl : isLetter t[p] = false) (hc : isDigit t[p] = true) (w : World) :
    Calls Tryz.prog 23 #[.string t, .int .i64 p] w fun x w' => x = .returned (nextV (t.data.toList.drop p) p (tok (t.data.toList.drop p))) ∧ Below w.heap.size w w' := by
  have HS : Hid (Since w w) := Below.refl _ _
  have hlet := fun w => rletter_any t[p] w
  rw [hl] at hlet
  have hdgp := fun w => rdigitc_any t[p] w
  rw [hc] at hdgp
  have hword := fun (k : Nat) (h : k < t.size) w => rword_any t[k] w
  have hdg := fun (k : Nat) (h : k < t.size) w => rdigitc_any t[k] w
  have htk : tok (t.data.toList.drop p) = if (10 < runLen isDigit (t.data.toList.drop p) || nextWord ((t.data.toList.drop p).drop (runLen isDigit (t.data.toList.drop p)))) = true then .bad 6 else .good 2 (runLen isDigit (t.data.toList.drop p)) (numVal ((t.data.toList.drop p).take (runLen isDigit (t.data.toList.drop p)))) := by
    rw [drop_byte t p hp]; exact tok_digit _ _ hc
  have hle := runLen_le isDigit (t.data.toList.drop p)
  rw [List.length_drop, Array.length_toList] at hle
  have hst := run_step isDigit t p hp
  rw [hc, if_pos rfl] at hst
  have hdig := (runLen_split isDigit (t.data.toList.drop p)).1
  obtain ⟨g, hg⟩ : ∃ g, runLen isDigit (t.data.toList.drop p) = g := ⟨_, rfl⟩
  rw [hg] at htk hle hst hdig
  have hle2 : p + g ≤ t.size := by
    have : t.data.size = t.size := rfl
    omega
  rw [List.drop_drop, next_word_at] at htk
  obtain ⟨V, hV⟩ : ∃ V, nextV (t.data.toList.drop p) p (tok (t.data.toList.drop p)) = V := ⟨_, rfl⟩
  rw [hV]
  rw [htk] at hV
  have hat : ∀ i, p ≤ i → i < p + g → ∃ h : i < t.size, 48 ≤ t[i].toNat ∧ t[i].toNat ≤ 57 ∧ (t.data.toList.drop p).take (i + 1 - p) = (t.data.toList.drop p).take (i - p) ++ [t[i]] := fun i h1 h2 => by
    have hi : i < t.size := by omega
    have hl : i - p < (t.data.toList.drop p).length := by rw [List.length_drop, Array.length_toList]; have : t.data.size = t.size := rfl; omega
    have e1 : (t.data.toList.drop p)[i - p] = t[i] := by
      rw [List.getElem_drop]
      simp only [show p + (i - p) = i by omega]
      simp [ByteArray.getElem_eq_getElem_data]
    have hd := hdig t[i] (by
      rw [List.mem_take_iff_getElem]
      exact ⟨i - p, by omega, e1⟩)
    simp only [isDigit, Bool.and_eq_true, decide_eq_true_eq] at hd
    refine ⟨hi, hd.1, hd.2, ?_⟩
    rw [show i + 1 - p = (i - p) + 1 by omega, List.take_succ_eq_append_getElem hl, e1]
  have hnum : ∀ i, i ≤ p + g → g ≤ 10 → numVal ((t.data.toList.drop p).take (i - p)) < 10000000000 := fun i h1 h2 => by
    refine numVal_lt (fun b hb => hdig b ?_) (by rw [List.length_take]; omega)
    exact List.take_subset_take_left _ (by omega) hb
  have HV := Lib.hid hV; have HLT := Lib.hid hlet; have HDP := Lib.hid hdgp; have HDG := Lib.hid hdg; have HW := Lib.hid hword; have HST := Lib.hid hst; have HAT := Lib.hid hat; have HNUM := Lib.hid hnum
  have hex := extract_run t p g
  have HX := Lib.hid hex
  clear hV hlet hword hst htk hle hg hc hex hl hdgp hdg hdig hat hnum
  obtain ⟨N, hN⟩ : ∃ N, t[p].toNat = N := ⟨_, rfl⟩
  rw [hN] at HLT HDP
  go_enter Tryz.func23, Tryz.ntmps23
  go_wp2_with fail
  refine (HLT.out _).mono ?_; rintro e w1 ⟨rfl, rfl⟩
  go_wp2_with fail
  refine (HDP.out _).mono ?_; rintro e w1 ⟨rfl, rfl⟩
  go_wp2
  have f0 := (Four.new w (.int .i64 0) (.string ⟨#[]⟩) (.int .i64 0) (.int .i64 0) 67).below (Nat.lt_succ_self _) (by have := Below.alloc (Below.refl (w.alloc (.cells #[.int .i64 0, .string ⟨#[]⟩, .int .i64 0, .int .i64 0] 67)).heap.size _) (Nat.le_refl _) (.cells #[.int .i64 0, .string ⟨#[]⟩, .int .i64 0, .int .i64 p] 67); simpa using this)
  have f1 := Four.new (w.alloc (.cells #[.int .i64 0, .string ⟨#[]⟩, .int .i64 0, .int .i64 0] 67)) (.int .i64 0) (.string ⟨#[]⟩) (.int .i64 0) (.int .i64 p) 67
  have k0 : ((w.alloc (.cells #[.int .i64 0, .string ⟨#[]⟩, .int .i64 0, .int .i64 0] 67)).alloc (.cells #[.int .i64 0, .string ⟨#[]⟩, .int .i64 0, .int .i64 p] 67)).cell? ⟨w.heap.size + 1, 0, none⟩ = some (.int .i64 0) := by simp
  have k1 : ((w.alloc (.cells #[.int .i64 0, .string ⟨#[]⟩, .int .i64 0, .int .i64 0] 67)).alloc (.cells #[.int .i64 0, .string ⟨#[]⟩, .int .i64 0, .int .i64 p] 67)).cell? ⟨w.heap.size + 1, 1, none⟩ = some (.string ⟨#[]⟩) := by simp
  have k2 : ((w.alloc (.cells #[.int .i64 0, .string ⟨#[]⟩, .int .i64 0, .int .i64 0] 67)).alloc (.cells #[.int .i64 0, .string ⟨#[]⟩, .int .i64 0, .int .i64 p] 67)).cell? ⟨w.heap.size + 1, 2, none⟩ = some (.int .i64 0) := by simp
  have k3 : ((w.alloc (.cells #[.int .i64 0, .string ⟨#[]⟩, .int .i64 0, .int .i64 0] 67)).alloc (.cells #[.int .i64 0, .string ⟨#[]⟩, .int .i64 0, .int .i64 p] 67)).cell? ⟨w.heap.size + 1, 3, none⟩ = some (.int .i64 p) := by simp
  have hS1 := (HS.out.alloc (.cells #[.int .i64 0, .string ⟨#[]⟩, .int .i64 0, .int .i64 0] 67)).alloc (.cells #[.int .i64 0, .string ⟨#[]⟩, .int .i64 0, .int .i64 p] 67)
  simp only [World.size_alloc] at f1
  generalize (w.alloc (.cells #[.int .i64 0, .string ⟨#[]⟩, .int .i64 0, .int .i64 0] 67)).alloc (.cells #[.int .i64 0, .string ⟨#[]⟩, .int .i64 0, .int .i64 p] 67) = W1 at *
  have hS1' := f1.facts
  obtain ⟨⟨e0, e1, e2, e3, q0, q1, q2, q3⟩, r0, r1, r2, r3⟩ := f0.facts
  obtain ⟨_, s0, s1, s2, s3⟩ := f1.facts
  have HF0 := Lib.hid f0; have HF1 := Lib.hid f1; have HS1 := Lib.hid hS1
  clear f0 f1 hS1 hS1'
  go_loopw [6] (fun i wr => ∃ j : Nat, i = .int .i64 j ∧ p + 1 ≤ j ∧ j ≤ t.size ∧ W1 = wr ∧ Hid (j + runLen isDigit (t.data.toList.drop j) = p + g)) (fun i _ => t.size - (intOf i).toNat)
  case atStart => exact ⟨p + 1, by go_num, Nat.le_refl _, hp, rfl, Lib.hid (by have := HST.out; omega)⟩
  case round =>
    obtain ⟨j, rfl, hpj, hj, rfl, HJ⟩ := hrel
    rcases run_key isDigit t j (p + g) hj HJ.out with ⟨hjl, hx, hnext⟩ | ⟨hx, hje⟩
    · have hw := HDG.out j hjl
      rw [hx] at hw
      have H1 := Lib.hid hw; have HN := Lib.hid hnext
      have hd : decide ((j : Int) < (t.size : Int)) = true := by simp; omega
      clear hw hx hnext HJ
      go_wp2_with fail
      refine (H1.out _).mono ?_; rintro e w1 ⟨rfl, rfl⟩
      go_wp2
      go_roundw
      case rel => exact ⟨j + 1, by go_num, by omega, by omega, trivial, HN⟩
      case measure => simp [intOf]; omega
    · subst hje
      clear HJ
      by_cases h10 : 10 < g
      · have hd10 : decide ((10 : Int) < (p + g : Nat) - (p : Int)) = true := by simp; omega
        by_cases hjl : p + g < t.size
        · have hw := HDG.out (p + g) hjl
          rw [hx hjl] at hw
          have H1 := Lib.hid hw
          have hd : decide (((p + g : Nat) : Int) < (t.size : Int)) = true := by simp; omega
          clear hw hx
          go_wp2_with fail
          refine (H1.out _).mono ?_; rintro e w1 ⟨rfl, rfl⟩
          go_wp2
          refine bodyPost_ret (results_tok2 rfl _ _ w.heap.size _ _ _ _ _ rfl rfl ((HF0.out.set _ _).range _ _ _ _)) rfl ⟨?_, since_set4 (HS1.out.setCell (p := ⟨w.heap.size + 1, 0, none⟩) (Nat.le_succ _) _) (Nat.le_refl _) _ _ _ _⟩
          rw [← HV.out, if_pos (by simp [h10])]
          rfl
        · have hd : decide (((p + g : Nat) : Int) < (t.size : Int)) = false := by simp; omega
          clear hx
          go_wp2
          refine bodyPost_ret (results_tok2 rfl _ _ w.heap.size _ _ _ _ _ rfl rfl ((HF0.out.set _ _).range _ _ _ _)) rfl ⟨?_, since_set4 (HS1.out.setCell (p := ⟨w.heap.size + 1, 0, none⟩) (Nat.le_succ _) _) (Nat.le_refl _) _ _ _ _⟩
          rw [← HV.out, if_pos (by simp [h10])]
          rfl
      · have hd10 : decide ((10 : Int) < (p + g : Nat) - (p : Int)) = false := by simp; omega
        by_cases hjl : p + g < t.size
        · have hw := HDG.out (p + g) hjl
          rw [hx hjl] at hw
          have hw2 := HW.out (p + g) hjl
          obtain ⟨x, hxw⟩ : ∃ x, isWord t[p + g] = x := ⟨_, rfl⟩
          have hV2 := HV.out
          rw [dif_pos hjl, hxw] at hV2
          clear HV
          rw [hxw] at hw2
          have H1 := Lib.hid hw; have H2 := Lib.hid hw2; have HV := Lib.hid hV2
          have hd : decide (((p + g : Nat) : Int) < (t.size : Int)) = true := by simp; omega
          clear hw hx hw2 hxw hV2
          cases x
          · go_wp2_with fail
            refine (H1.out _).mono ?_; rintro e w1 ⟨rfl, rfl⟩
            go_wp2_with fail
            refine (H2.out _).mono ?_; rintro e w1 ⟨rfl, rfl⟩
            go_wp2
            have f0' := HF0.out.set ⟨w.heap.size + 1, 0, none⟩ (.int .i64 2)
            have f1' := HF1.out.set ⟨w.heap.size + 1, 0, none⟩ (.int .i64 2)
            have n0 : (W1.setCell ⟨w.heap.size + 1, 0, none⟩ (.int .i64 2)).cell? ⟨w.heap.size + 1, 0, none⟩ = some (.int .i64 2) := World.cell?_setCell_same _ _ _ k0
            have n1 : (W1.setCell ⟨w.heap.size + 1, 0, none⟩ (.int .i64 2)).cell? ⟨w.heap.size + 1, 1, none⟩ = some (.string ⟨#[]⟩) := by rw [World.cell?_setCell_other _ _ _ _ (by simp)]; exact k1
            have n2 : (W1.setCell ⟨w.heap.size + 1, 0, none⟩ (.int .i64 2)).cell? ⟨w.heap.size + 1, 2, none⟩ = some (.int .i64 (0 : Nat)) := by rw [World.cell?_setCell_other _ _ _ _ (by simp)]; exact k2
            have n3 : (W1.setCell ⟨w.heap.size + 1, 0, none⟩ (.int .i64 2)).cell? ⟨w.heap.size + 1, 3, none⟩ = some (.int .i64 p) := by rw [World.cell?_setCell_other _ _ _ _ (by simp)]; exact k3
            have hS2 := HS1.out.setCell (p := ⟨w.heap.size + 1, 0, none⟩) (Nat.le_succ _) (.int .i64 2)
            have hV3 : nextV (t.data.toList.drop p) p (.good 2 g (numVal ((t.data.toList.drop p).take g))) = V := by rw [← HV.out, if_neg (by simp [h10])]
            have HV3 := Lib.hid hV3
            have HF0' := Lib.hid f0'; have HF1' := Lib.hid f1'; have HS2 := Lib.hid hS2
            clear k0 k1 k2 k3 r0 r1 r2 r3 s0 s1 s2 s3 q0 q1 q2 q3 HF0 HF1 HS1 hV3 HV f0' f1' hS2
            generalize W1.setCell ⟨w.heap.size + 1, 0, none⟩ (.int .i64 2) = W2 at *
            go_loopw [9] (fun i wr => ∃ k v : Nat, i = .int .i64 k ∧ p ≤ k ∧ k ≤ p + g ∧ v < 10000000000 ∧ Hid (numVal ((t.data.toList.drop p).take (k - p)) = v) ∧ Hid (Four wr w.heap.size) ∧ Hid (Four wr (w.heap.size + 1)) ∧ wr.cell? ⟨w.heap.size + 1, 0, none⟩ = some (.int .i64 2) ∧ wr.cell? ⟨w.heap.size + 1, 1, none⟩ = some (.string ⟨#[]⟩) ∧ wr.cell? ⟨w.heap.size + 1, 2, none⟩ = some (.int .i64 v) ∧ wr.cell? ⟨w.heap.size + 1, 3, none⟩ = some (.int .i64 p) ∧ Hid (Since w wr)) (fun i _ => (p + g) - (intOf i).toNat)
            case atStart => exact ⟨p, 0, rfl, Nat.le_refl _, by omega, by omega, Lib.hid (by rw [Nat.sub_self, List.take_zero]; rfl), HF0', HF1', n0, n1, n2, n3, HS2⟩
            case round =>
              clear n0 n1 n2 n3 HF0' HF1' HS2
              obtain ⟨k, v, rfl, hpk, hkg, hv, HNV, HG0, HG1, c0, c1, c2, c3, HSW⟩ := hrel
              by_cases hklt : k < p + g
              · obtain ⟨hks, hlo, hhi, htake⟩ := HAT.out k hpk hklt
                have hnext : numVal ((t.data.toList.drop p).take (k + 1 - p)) = 10 * v + (t[k].toNat - 48) := by
                  rw [htake]; unfold numVal; rw [numFrom_snoc]; have := HNV.out; unfold numVal at this; rw [this]
                have hb := HNUM.out (k + 1) hklt (by omega)
                rw [hnext] at hb
                obtain ⟨n, hn⟩ : ∃ n, t[k].toNat = n := ⟨_, rfl⟩
                rw [hn] at hnext hb hlo hhi
                have HNX := Lib.hid hnext
                have hkd : decide ((k : Int) < ((p + g : Nat) : Int)) = true := by simp; omega
                have z0 := (HG1.out.free 2 (by decide))
                clear hnext htake HNV
                go_wp2
                go_still_tail 10, (by kernel_rfl)
                change wpList _ _ _ _ _ wr.drew
                have b0 := (HG0.out.drewN 1)
                have b1 := (HG1.out.drewN 1)
                have bs := (HSW.out.drewN 1)
                have d0 : (wr.drewN 1).cell? ⟨w.heap.size + 1, 0, none⟩ = some (.int .i64 2) := c0
                have d1 : (wr.drewN 1).cell? ⟨w.heap.size + 1, 1, none⟩ = some (.string ⟨#[]⟩) := c1
                have d2 : (wr.drewN 1).cell? ⟨w.heap.size + 1, 2, none⟩ = some (.int .i64 v) := c2
                have d3 : (wr.drewN 1).cell? ⟨w.heap.size + 1, 3, none⟩ = some (.int .i64 p) := c3
                have df : (wr.drewN 1).frozen? ⟨w.heap.size + 1, 2, none⟩ = false := z0
                change wpList _ _ _ _ _ (wr.drewN 1)
                have HB0 := Lib.hid b0; have HB1 := Lib.hid b1; have HBS := Lib.hid bs
                clear c0 c1 c2 c3 z0 b0 b1 bs HG0 HG1 HSW
                generalize wr.drewN 1 = wd at *
                go_wp2
                go_roundw
                case rel =>
                  refine ⟨k + 1, 10 * v + (n - 48), by go_num, by omega, hklt, hb, HNX, Lib.hid (HB0.out.set _ _), Lib.hid (HB1.out.set _ _), ?_, ?_, ?_, ?_, Lib.hid (HBS.out.setCell (p := ⟨w.heap.size + 1, 2, none⟩) (Nat.le_succ _) _)⟩
                  · rw [World.cell?_setCell_other _ _ _ _ (by simp)]; exact d0
                  · rw [World.cell?_setCell_other _ _ _ _ (by simp)]; exact d1
                  · rw [World.cell?_setCell_same _ _ _ d2]; congr 2; omega
                  · rw [World.cell?_setCell_other _ _ _ _ (by simp)]; exact d3
                case measure => simp [intOf]; omega
              · obtain rfl : k = p + g := by omega
                rw [Nat.add_sub_cancel_left] at HNV
                have hV4 := HV3.out
                rw [HNV.out, nextV_good, ← HX.out] at hV4
                have HV4 := Lib.hid hV4
                obtain ⟨⟨e0, e1, e2, e3, q0, q1, q2, q3⟩, r0, r1, r2, r3⟩ := HG0.out.facts
                obtain ⟨_, s0, s1, s2, s3⟩ := HG1.out.facts
                have hkd : decide (((p + g : Nat) : Int) < ((p + g : Nat) : Int)) = false := by simp
                clear hV4 HV3 HNV
                go_wp2
                refine bodyPost_ret (results_tok2 rfl _ _ w.heap.size _ _ _ _ _ rfl rfl ((HG0.out.set _ _).range _ _ _ _)) rfl ⟨?_, since_set4 (HSW.out.setCell (p := ⟨w.heap.size + 1, 1, none⟩) (Nat.le_succ _) _) (Nat.le_refl _) _ _ _ _⟩
                rw [← HV4.out]
                rfl
          · go_wp2_with fail
            refine (H1.out _).mono ?_; rintro e w1 ⟨rfl, rfl⟩
            go_wp2_with fail
            refine (H2.out _).mono ?_; rintro e w1 ⟨rfl, rfl⟩
            go_wp2
            refine bodyPost_ret (results_tok2 rfl _ _ w.heap.size _ _ _ _ _ rfl rfl ((HF0.out.set _ _).range _ _ _ _)) rfl ⟨?_, since_set4 (HS1.out.setCell (p := ⟨w.heap.size + 1, 0, none⟩) (Nat.le_succ _) _) (Nat.le_refl _) _ _ _ _⟩
            rw [← HV.out, if_pos (by simp)]
            rfl
        · have hd : decide (((p + g : Nat) : Int) < (t.size : Int)) = false := by simp; omega
          have hV2 := HV.out
          rw [dif_neg hjl] at hV2
          clear HV
          have HV := Lib.hid hV2
          clear hx hV2
          go_wp2
          have f0' := HF0.out.set ⟨w.heap.size + 1, 0, none⟩ (.int .i64 2)
          have f1' := HF1.out.set ⟨w.heap.size + 1, 0, none⟩ (.int .i64 2)
          have n0 : (W1.setCell ⟨w.heap.size + 1, 0, none⟩ (.int .i64 2)).cell? ⟨w.heap.size + 1, 0, none⟩ = some (.int .i64 2) := World.cell?_setCell_same _ _ _ k0
          have n1 : (W1.setCell ⟨w.heap.size + 1, 0, none⟩ (.int .i64 2)).cell? ⟨w.heap.size + 1, 1, none⟩ = some (.string ⟨#[]⟩) := by rw [World.cell?_setCell_other _ _ _ _ (by simp)]; exact k1
          have n2 : (W1.setCell ⟨w.heap.size + 1, 0, none⟩ (.int .i64 2)).cell? ⟨w.heap.size + 1, 2, none⟩ = some (.int .i64 (0 : Nat)) := by rw [World.cell?_setCell_other _ _ _ _ (by simp)]; exact k2
          have n3 : (W1.setCell ⟨w.heap.size + 1, 0, none⟩ (.int .i64 2)).cell? ⟨w.heap.size + 1, 3, none⟩ = some (.int .i64 p) := by rw [World.cell?_setCell_other _ _ _ _ (by simp)]; exact k3
          have hS2 := HS1.out.setCell (p := ⟨w.heap.size + 1, 0, none⟩) (Nat.le_succ _) (.int .i64 2)
          have hV3 : nextV (t.data.toList.drop p) p (.good 2 g (numVal ((t.data.toList.drop p).take g))) = V := by rw [← HV.out, if_neg (by simp [h10])]
          have HV3 := Lib.hid hV3
          have HF0' := Lib.hid f0'; have HF1' := Lib.hid f1'; have HS2 := Lib.hid hS2
          clear k0 k1 k2 k3 r0 r1 r2 r3 s0 s1 s2 s3 q0 q1 q2 q3 HF0 HF1 HS1 hV3 HV f0' f1' hS2
          generalize W1.setCell ⟨w.heap.size + 1, 0, none⟩ (.int .i64 2) = W2 at *
          go_loopw [9] (fun i wr => ∃ k v : Nat, i = .int .i64 k ∧ p ≤ k ∧ k ≤ p + g ∧ v < 10000000000 ∧ Hid (numVal ((t.data.toList.drop p).take (k - p)) = v) ∧ Hid (Four wr w.heap.size) ∧ Hid (Four wr (w.heap.size + 1)) ∧ wr.cell? ⟨w.heap.size + 1, 0, none⟩ = some (.int .i64 2) ∧ wr.cell? ⟨w.heap.size + 1, 1, none⟩ = some (.string ⟨#[]⟩) ∧ wr.cell? ⟨w.heap.size + 1, 2, none⟩ = some (.int .i64 v) ∧ wr.cell? ⟨w.heap.size + 1, 3, none⟩ = some (.int .i64 p) ∧ Hid (Since w wr)) (fun i _ => (p + g) - (intOf i).toNat)
          case atStart => exact ⟨p, 0, rfl, Nat.le_refl _, by omega, by omega, Lib.hid (by rw [Nat.sub_self, List.take_zero]; rfl), HF0', HF1', n0, n1, n2, n3, HS2⟩
          case round =>
            clear n0 n1 n2 n3 HF0' HF1' HS2
            obtain ⟨k, v, rfl, hpk, hkg, hv, HNV, HG0, HG1, c0, c1, c2, c3, HSW⟩ := hrel
            by_cases hklt : k < p + g
            · obtain ⟨hks, hlo, hhi, htake⟩ := HAT.out k hpk hklt
              have hnext : numVal ((t.data.toList.drop p).take (k + 1 - p)) = 10 * v + (t[k].toNat - 48) := by
                rw [htake]; unfold numVal; rw [numFrom_snoc]; have := HNV.out; unfold numVal at this; rw [this]
              have hb := HNUM.out (k + 1) hklt (by omega)
              rw [hnext] at hb
              obtain ⟨n, hn⟩ : ∃ n, t[k].toNat = n := ⟨_, rfl⟩
              rw [hn] at hnext hb hlo hhi
              have HNX := Lib.hid hnext
              have hkd : decide ((k : Int) < ((p + g : Nat) : Int)) = true := by simp; omega
              have z0 := (HG1.out.free 2 (by decide))
              clear hnext htake HNV
              go_wp2
              go_still_tail 10, (by kernel_rfl)
              change wpList _ _ _ _ _ wr.drew
              have b0 := (HG0.out.drewN 1)
              have b1 := (HG1.out.drewN 1)
              have bs := (HSW.out.drewN 1)
              have d0 : (wr.drewN 1).cell? ⟨w.heap.size + 1, 0, none⟩ = some (.int .i64 2) := c0
              have d1 : (wr.drewN 1).cell? ⟨w.heap.size + 1, 1, none⟩ = some (.string ⟨#[]⟩) := c1
              have d2 : (wr.drewN 1).cell? ⟨w.heap.size + 1, 2, none⟩ = some (.int .i64 v) := c2
              have d3 : (wr.drewN 1).cell? ⟨w.heap.size + 1, 3, none⟩ = some (.int .i64 p) := c3
              have df : (wr.drewN 1).frozen? ⟨w.heap.size + 1, 2, none⟩ = false := z0
              change wpList _ _ _ _ _ (wr.drewN 1)
              have HB0 := Lib.hid b0; have HB1 := Lib.hid b1; have HBS := Lib.hid bs
              clear c0 c1 c2 c3 z0 b0 b1 bs HG0 HG1 HSW
              generalize wr.drewN 1 = wd at *
              go_wp2
              go_roundw
              case rel =>
                refine ⟨k + 1, 10 * v + (n - 48), by go_num, by omega, hklt, hb, HNX, Lib.hid (HB0.out.set _ _), Lib.hid (HB1.out.set _ _), ?_, ?_, ?_, ?_, Lib.hid (HBS.out.setCell (p := ⟨w.heap.size + 1, 2, none⟩) (Nat.le_succ _) _)⟩
                · rw [World.cell?_setCell_other _ _ _ _ (by simp)]; exact d0
                · rw [World.cell?_setCell_other _ _ _ _ (by simp)]; exact d1
                · rw [World.cell?_setCell_same _ _ _ d2]; congr 2; omega
                · rw [World.cell?_setCell_other _ _ _ _ (by simp)]; exact d3
              case measure => simp [intOf]; omega
            · obtain rfl : k = p + g := by omega
              rw [Nat.add_sub_cancel_left] at HNV
              have hV4 := HV3.out
              rw [HNV.out, nextV_good, ← HX.out] at hV4
              have HV4 := Lib.hid hV4
              obtain ⟨⟨e0, e1, e2, e3, q0, q1, q2, q3⟩, r0, r1, r2, r3⟩ := HG0.out.facts
              obtain ⟨_, s0, s1, s2, s3⟩ := HG1.out.facts
              have hkd : decide (((p + g : Nat) : Int) < ((p + g : Nat) : Int)) = false := by simp
              clear hV4 HV3 HNV
              go_wp2
              refine bodyPost_ret (results_tok2 rfl _ _ w.heap.size _ _ _ _ _ rfl rfl ((HG0.out.set _ _).range _ _ _ _)) rfl ⟨?_, since_set4 (HSW.out.setCell (p := ⟨w.heap.size + 1, 1, none⟩) (Nat.le_succ _) _) (Nat.le_refl _) _ _ _ _⟩
              rw [← HV4.out]
              rfl
end Go.Proofs.YtlfjdohjfmfcdaaGreatDoor
