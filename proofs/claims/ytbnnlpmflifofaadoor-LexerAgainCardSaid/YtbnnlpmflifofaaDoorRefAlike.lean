/-
  The document's own comparison of tokens apart from offsets; the written texts of tokens.
-/
import Derived.Test.YtbnnlpmflifofaaDoorRefSame
namespace Go.Proofs.YtbnnlpmflifofaaDoor
open Go.RowKit Go.Sort Foyer.Lexer

theorem sans_at {a c : List Tok} {k : Nat} {t u : Tok} (ha : a[k]? = some t) (hc : c[k]? = some u) (h : sans a = sans c) : t.kind = u.kind ∧ t.text = u.text ∧ t.val = u.val := by
  have := congrArg (fun l => l[k]?) h
  simp only [sans, List.getElem?_map, ha, hc, Option.map_some, Option.some.injEq, Prod.mk.injEq] at this
  exact this
set_option maxRecDepth 100000 in
set_option maxHeartbeats 2000000 in
theorem alike_any (a c : List Tok) (p p2 : Option Addr) (n cap n2 cap2 : Nat) (w : World) (ha : RdT w p a) (hc : RdT w p2 c) (hn : a.length = n) (hn2 : c.length = n2) (hm : n ≤ 1000000) (hm2 : n2 ≤ 1000000) :
    Calls Tryd.prog 17 #[.slice p n cap, .slice p2 n2 cap2] w fun e w' => e = .returned (.bool (alike a c)) ∧ ∃ m, w' = w.drewN m := by
  obtain ⟨y, hy⟩ : ∃ y, alike a c = y := ⟨_, rfl⟩
  rw [hy]
  by_cases hnn : n = n2
  · subst hnn
    have HA := Lib.hid ha; have HC := Lib.hid hc; have HN := Lib.hid hn; have HN2 := Lib.hid hn2; have HY := Lib.hid hy
    clear ha hc hn hn2 hy
    go_enter Tryd.func17, Tryd.ntmps17
    go_wp2
    go_loopw [5] (fun i wr => ∃ k m : Nat, i = .int .i64 k ∧ k ≤ n ∧ wr = w.drewN m ∧ Hid (∀ j, j < k → (sans a)[j]? = (sans c)[j]?)) (fun i _ => n - (intOf i).toNat)
    case atStart => exact ⟨0, 0, rfl, Nat.zero_le _, rfl, Lib.hid (fun j h => by omega)⟩
    case round =>
      obtain ⟨k, m, rfl, hk, rfl, HK⟩ := hrel
      by_cases hlt : k < n
      · obtain ⟨t, ht⟩ : ∃ t, a[k]? = some t := ⟨_, List.getElem?_eq_getElem (by rw [HN.out]; exact hlt)⟩
        obtain ⟨u, hu⟩ : ∃ u, c[k]? = some u := ⟨_, List.getElem?_eq_getElem (by rw [HN2.out]; exact hlt)⟩
        obtain ⟨b, off, rfl, hta, hbl⟩ := rdT_cells HA.out k t ht
        obtain ⟨b2, off2, rfl, htc, hbl2⟩ := rdT_cells HC.out k u hu
        have hsa := sans_at ht hu
        obtain ⟨kd, T, v, po⟩ := t
        obtain ⟨kd2, T2, v2, po2⟩ := u
        obtain ⟨a0, a1, a2, a3⟩ := hta
        obtain ⟨c0, c1, c2, c3⟩ := htc
        dsimp only at a0 a1 a2 a3 c0 c1 c2 c3 hsa
        have hnx : kd = kd2 → T = T2 → v = v2 → ∀ j, j < k + 1 → (sans a)[j]? = (sans c)[j]? := fun h1 h2 h3 j hj => by
          rcases Nat.lt_or_ge j k with h | h
          · exact HK.out j h
          · obtain rfl : j = k := by omega
            simp only [sans, List.getElem?_map, ht, hu, Option.map_some]
            rw [h1, h2, h3]
        have hbad : ¬ (kd = kd2 ∧ T = T2 ∧ v = v2) → y = false := fun h => by
          rw [← HY.out]; unfold alike
          rw [decide_eq_false_iff_not]
          exact fun e => h (hsa e)
        have HNX := Lib.hid hnx; have HBAD := Lib.hid hbad
        clear ht hu hsa hnx hbad a3 c3
        have hkd : decide ((k : Int) < (n : Int)) = true := by simp; omega
        by_cases h0 : kd = kd2
        · subst h0
          by_cases h1 : T = T2
          · subst h1
            by_cases h2 : v = v2
            · subst h2
              have hr := Lib.hid (HNX.out rfl rfl rfl)
              clear HNX HBAD HK
              go_wp2
              go_quiet (fail)
              go_wp2
              go_roundw
              case rel => exact ⟨k + 1, _, by go_num, hlt, rfl, hr⟩
              case measure => simp [intOf]; omega
            · have hy2 := HBAD.out (fun h => h2 h.2.2)
              subst hy2
              have e2 : ((v : Int) != (v2 : Int)) = true := by simp; omega
              clear HNX HBAD h2
              go_wp2
              go_quiet (fail)
              go_wp2
              go_ret
              exact ⟨rfl, _, World.drewN_drewN ..⟩
          · have hy2 := HBAD.out (fun h => h1 h.2.1)
            subst hy2
            have e1 : (T == T2) = false := by simpa using h1
            have e1' : (T != T2) = true := by simpa using h1
            clear HNX HBAD h1
            go_wp2
            go_quiet (fail)
            go_wp2
            go_ret
            exact ⟨rfl, _, World.drewN_drewN ..⟩
        · have hy2 := HBAD.out (fun h => h0 h.1)
          subst hy2
          have e0 : ((kd : Int) != (kd2 : Int)) = true := by simp; omega
          clear HNX HBAD h0
          go_wp2
          go_quiet (fail)
          go_wp2
          go_ret
          exact ⟨rfl, _, World.drewN_drewN ..⟩
      · have hkd : decide ((k : Int) < (n : Int)) = false := by simp; omega
        have hy2 : y = true := by
          rw [← HY.out]; unfold alike
          rw [decide_eq_true_eq]
          apply List.ext_getElem?
          intro j
          rcases Nat.lt_or_ge j k with h3 | h3
          · exact HK.out j h3
          · rw [List.getElem?_eq_none (by unfold sans; rw [List.length_map, HN.out]; omega), List.getElem?_eq_none (by unfold sans; rw [List.length_map, HN2.out]; omega)]
        subst hy2
        go_wp2
        go_ret
        exact ⟨rfl, _, rfl⟩
  · have hy2 : y = false := by
      rw [← hy]; unfold alike
      rw [decide_eq_false_iff_not]
      intro e
      have := congrArg List.length e
      unfold sans at this
      rw [List.length_map, List.length_map] at this
      omega
    have hb : ((n : Int) != (n2 : Int)) = true := by simp; omega
    subst hy2
    clear hy hn hn2 ha hc
    go_enter Tryd.func17, Tryd.ntmps17
    go_wp2
    go_ret
    exact ⟨rfl, 0, rfl⟩

theorem written_take (ts : List Tok) (k : Nat) (t : Tok) (h : ts[k]? = some t) : Foyer.Lexer.written (ts.take (k + 1)) = Foyer.Lexer.written (ts.take k) ++ (t.text ++ [32]) := by
  have hk := (List.getElem?_eq_some_iff.1 h)
  rw [List.take_succ_eq_append_getElem hk.1, hk.2]
  unfold Foyer.Lexer.written
  rw [List.flatMap_append]; simp
set_option maxRecDepth 100000 in
set_option maxHeartbeats 2000000 in
theorem written_any (a : List Tok) (p : Option Addr) (n cap : Nat) (w : World) (ha : RdT w p a) (hn : a.length = n) (hm : n ≤ 1000000) (hl : (Foyer.Lexer.written a).length ≤ 1000000) :
    Calls Tryd.prog 16 #[.slice p n cap] w fun e w' => e = .returned (.string ⟨(Foyer.Lexer.written a).toArray⟩) ∧ ∃ m, w' = w.drewN m := by
  have htake : ∀ k, (Foyer.Lexer.written (a.take k)).length ≤ 1000000 := fun k => by
    refine Nat.le_trans ?_ hl
    conv => rhs; rw [← List.take_append_drop k a]
    unfold Foyer.Lexer.written
    rw [List.flatMap_append, List.length_append]; omega
  have hend : a.take n = a := by rw [← hn]; exact List.take_length
  have HA := Lib.hid ha; have HN := Lib.hid hn; have HT := Lib.hid htake; have HE := Lib.hid hend
  clear ha hn htake hend hl
  go_enter Tryd.func16, Tryd.ntmps16
  go_wp2
  go_loopw [3, 4] (fun s i wr => ∃ (k m : Nat) (z : List UInt8), i = .int .i64 k ∧ s = .string ⟨z.toArray⟩ ∧ k ≤ n ∧ wr = w.drewN m ∧ Hid (z = Foyer.Lexer.written (a.take k))) (fun _ i _ => n - (intOf i).toNat)
  case atStart => exact ⟨0, 0, [], rfl, rfl, Nat.zero_le _, rfl, Lib.hid (by rw [List.take_zero]; rfl)⟩
  case round =>
    obtain ⟨k, m, z, rfl, rfl, hk, rfl, HZ⟩ := hrel
    by_cases hlt : k < n
    · obtain ⟨t, ht⟩ : ∃ t, a[k]? = some t := ⟨_, List.getElem?_eq_getElem (by rw [HN.out]; exact hlt)⟩
      obtain ⟨b, off, rfl, hta, hbl⟩ := rdT_cells HA.out k t ht
      have hw := written_take a k t ht
      have hl := HT.out (k + 1)
      have hz := HT.out k
      rw [hw, ← HZ.out] at hl
      rw [← HZ.out] at hz hw
      obtain ⟨kd, T, v, po⟩ := t
      obtain ⟨a0, a1, a2, a3⟩ := hta
      dsimp only at a1 hw hl
      rw [List.length_append, List.length_append, List.length_singleton] at hl
      have hs1 : (⟨T.toArray⟩ : ByteArray).size = T.length := size_of_list T
      have hs2 : (⟨z.toArray⟩ : ByteArray).size = z.length := size_of_list z
      have hap : (⟨z.toArray⟩ : ByteArray) ++ ((⟨T.toArray⟩ : ByteArray) ++ ⟨#[32]⟩) = ⟨(Foyer.Lexer.written (a.take (k + 1))).toArray⟩ := by
        rw [hw]
        have := str_append T [32]
        rw [show (⟨#[32]⟩ : ByteArray) = ⟨([32] : List UInt8).toArray⟩ from rfl, this, str_append]
      have HAP := Lib.hid hap
      have hkd : decide ((k : Int) < (n : Int)) = true := by simp; omega
      clear ht hw a0 a2 a3 hap
      go_wp2
      go_roundw
      case rel => exact ⟨k + 1, _, Foyer.Lexer.written (a.take (k + 1)), by go_num, congrArg Value.string HAP.out, hlt, rfl, Lib.hid rfl⟩
      case measure => simp [intOf]; omega
    · obtain rfl : k = n := by omega
      have hkd : decide ((k : Int) < (k : Int)) = false := by simp
      have hz := HZ.out
      rw [HE.out] at hz
      have HZ2 := Lib.hid hz; clear hz
      go_wp2
      go_ret
      exact ⟨by rw [← HZ2.out]; rfl, _, rfl⟩
end Go.Proofs.YtbnnlpmflifofaaDoor
