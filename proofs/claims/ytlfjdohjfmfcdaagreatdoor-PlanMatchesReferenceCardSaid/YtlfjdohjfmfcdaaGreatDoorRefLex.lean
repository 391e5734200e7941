/-
  The document's own Lex.
-/
import Derived.Test.YtlfjdohjfmfcdaaGreatDoorRefSymbol
import Derived.Test.YtlfjdohjfmfcdaaGreatDoorOwnToks
import Derived.Test.YtlfjdohjfmfcdaaGreatDoorWalkEach
namespace Go.Proofs.YtlfjdohjfmfcdaaGreatDoor
open Go.RowKit Go.Sort Foyer.Lexer

theorem rlex_long (t : ByteArray) (ht : t.size ≤ 1000000) (h2 : 20000 < t.size) (w : World) :
    Calls Tryz.prog 10 #[.string t] w (LexPost t.data.toList w) := by
  have hl := lexAll_long (l := t.data.toList) (by simpa using h2)
  have HL := Lib.hid hl
  have HS : Hid (Since w w) := Below.refl _ _
  have hd : decide ((20000 : Int) < (t.size : Int)) = true := by simp; omega
  clear hl
  go_enter Tryz.func10, Tryz.ntmps10
  go_wp2
  refine bodyPost_ret (v := .tuple #[.slice none 0 0, .int .i64 3, .int .i64 (-1)]) (by simp [results, Tryz.results10, go_sem]) rfl ?_
  exact lexPost_of HL.out (ownT_nil _ 0) HS.out

set_option maxRecDepth 100000 in
set_option maxHeartbeats 2000000 in
theorem rlex_short (t : ByteArray) (h2 : t.size ≤ 20000) (w : World) :
    Calls Tryz.prog 10 #[.string t] w (LexPost t.data.toList w) := by
  obtain ⟨ts, er, hlx⟩ := lx_some 0 t.data.toList
  have hlen : t.data.toList.length ≤ 20000 := by simpa using h2
  have HS : Hid (Since w w) := Below.refl _ _
  have hd : decide ((20000 : Int) < (t.size : Int)) = false := by simp; omega
  have hgap := fun (k : Nat) (hk : k ≤ t.size) w => rgap_any t (by omega) k hk w
  have hg0 := hgap 0 (Nat.zero_le _)
  rw [List.drop_zero, Nat.zero_add] at hg0
  have hnext := fun (k : Nat) (hk : k < t.size) w => rnext_any t (by omega) k hk w
  have hgle : gapL false t.data.toList ≤ t.size := by have := gapL_le t.data.toList false; simpa using this
  have hlx0 : Lx (gapL false t.data.toList) (t.data.toList.drop (gapL false t.data.toList)) ts er := by have := lx_skip hlx; rw [Nat.zero_add] at this; exact this
  have hgs := gap_skip t.data.toList
  obtain ⟨g0, hg0e⟩ : ∃ g, gapL false t.data.toList = g := ⟨_, rfl⟩
  rw [hg0e] at hg0 hgle hlx0 hgs
  have HLX := Lib.hid hlx; have HLEN := Lib.hid hlen; have HG0 := Lib.hid hg0; have HGAP := Lib.hid hgap; have HNX := Lib.hid hnext; have HLX0 := Lib.hid hlx0; have HGS := Lib.hid hgs
  clear hlx hlen hg0 hgap hnext hlx0 hgs hg0e
  go_enter Tryz.func10, Tryz.ntmps10
  go_wp2_with fail
  refine (HG0.out _).mono ?_; rintro e w1 ⟨rfl, rfl⟩
  go_wp2
  go_loopw [5, 6] (fun o i wr => ∃ (k n cap : Nat) (q : Option Addr) (pre us : List Tok), i = .int .i64 k ∧ o = .slice q n cap ∧ n ≤ 5000 ∧ k ≤ t.size ∧ Hid (pre.length = n) ∧ Hid (Lx k (t.data.toList.drop k) us er) ∧ Hid (gapL false (t.data.toList.drop k) = 0) ∧ Hid (ts = pre ++ us) ∧ Hid (wr.ownsRow w.heap.size 67 4 (.slice q n cap) n (toksC pre)) ∧ Hid (Since w wr)) (fun _ i _ => t.size - (intOf i).toNat)
  case atStart => exact ⟨g0, 0, 0, none, [], ts, rfl, rfl, by omega, hgle, Lib.hid rfl, HLX0, HGS, Lib.hid rfl, Lib.hid (ownT_nil _ _), HS⟩
  case round =>
    obtain ⟨wo, rfl⟩ : ∃ wo : World, wo = wr := ⟨_, rfl⟩
    clear HLX0 HGS HS hgle HG0
    obtain ⟨k, n, cap, q, pre, us, rfl, rfl, hn5, hk, HPN, HL, HG, HTS, HO, HSW⟩ := hrel
    by_cases hlt : k < t.size
    · have hdr := drop_byte t k hlt
      have hng : nonGap t[k] := nonGap_of (r := t.data.toList.drop (k + 1)) (by rw [← hdr]; exact HG.out)
      have hcs := lx_head (a := k) (c := t[k]) (r := t.data.toList.drop (k + 1)) (ts := us) (e := er) (by rw [← hdr]; exact HL.out) hng
      rw [← hdr] at hcs
      have hnx := HNX.out k hlt
      have hdk : decide ((k : Int) < (t.size : Int)) = true := by simp; omega
      rcases hcs with ⟨d, hk1, rfl, rfl⟩ | ⟨kd, m, v, us', hk1, rfl, hlx', hm1, hm2⟩
      · rw [hk1, nextV_bad] at hnx
        have hd3 := (lx_err HL.out d k rfl).1
        have hts : ts = pre := by rw [HTS.out, List.append_nil]
        have hl := lexAll_bad HLEN.out HLX.out (by rw [hts, HPN.out]; exact hn5)
        have HNX1 := Lib.hid hnx; have HLL := Lib.hid hl
        have hd0 : ((d : Int) != 0) = true := by rcases hd3 with rfl | rfl | rfl <;> rfl
        clear hnx hdr hng hk1 hts hl hd3
        go_wp2_with fail
        refine (HNX1.out _).mono ?_; rintro e w1 ⟨rfl, hb1⟩
        have HB1 := Lib.hid (HSW.out.call hb1)
        clear hb1
        go_wp2
        refine bodyPost_ret (v := .tuple #[.slice none 0 0, .int .i64 (d : Nat), .int .i64 (k : Nat)]) (by simp [results, Tryz.results10, go_sem]) rfl ?_
        exact lexPost_of HLL.out (ownT_nil _ 0) (HB1.out.alloc _)
      · obtain ⟨T, hT⟩ : ∃ T, (t.data.toList.drop k).take m = T := ⟨_, rfl⟩
        rw [hk1, nextV_good, hT] at hnx
        rw [hT] at HTS
        have hTl : T.length = m := by rw [← hT, List.length_take]; omega
        have hkm : k + m ≤ t.size := by
          rw [List.length_drop, Array.length_toList] at hm2
          have : t.data.size = t.size := rfl
          omega
        have hsz : (⟨T.toArray⟩ : ByteArray).size = m := by rw [size_of_list, hTl]
        rw [List.drop_drop] at hlx'
        have HNX1 := Lib.hid hnx; have HLX' := Lib.hid hlx'; have HTL := Lib.hid hTl; have HTT := Lib.hid hT; have HSZ := Lib.hid hsz
        clear hnx hdr hng hk1 hlx' hTl hT hm2 hsz
        by_cases h5 : n = 5000
        · have hl := lexAll_many HLEN.out (by rw [← HTS.out]; exact HLX.out) (by rw [HPN.out]; exact h5)
          have HLL := Lib.hid hl
          subst h5
          clear hl
          go_wp2_with fail
          refine (HNX1.out _).mono ?_; rintro e w1 ⟨rfl, hb1⟩
          have HB1 := Lib.hid (HSW.out.call hb1)
          clear hb1
          go_wp2
          refine bodyPost_ret (v := .tuple #[.slice none 0 0, .int .i64 (3 : Nat), .int .i64 (k : Nat)]) (by simp [results, Tryz.results10, go_sem]) rfl ?_
          exact lexPost_of HLL.out (ownT_nil _ 0) (HB1.out.alloc _)
        · have hdn : ((n : Int) == 5000) = false := by simp; omega
          go_wp2_with fail
          refine (HNX1.out _).mono ?_; rintro e w1 ⟨rfl, hb1⟩
          have HB1 := Lib.hid (HSW.out.call hb1)
          have HO1 := Lib.hid (own_kept HO.out hb1)
          clear hb1 HO HSW
          have hgap := HGAP.out (k + m) hkm
          have HG1 := Lib.hid hgap
          have hbox : ∀ w2 : World, ((w1.alloc (.cells #[.int .i64 (kd : Nat), .string ⟨T.toArray⟩, .int .i64 (v : Nat), .int .i64 k] 67)).alloc (.cells #[.int .i64 (kd : Nat), .string ⟨T.toArray⟩, .int .i64 (v : Nat), .int .i64 k] 67)).grownBy w2 (Value.slice q n cap).ownBlock → w2.cell? ⟨w1.heap.size, 1, none⟩ = some (.string ⟨T.toArray⟩) := fun w2 hg => by
            refine (World.cell?_of_block (hg.block w1.heap.size (by simp; omega) (fun e => ?_))).trans (by simp)
            have := (World.ownsRow.lt HO1.out _ e.symm).2
            omega
          have hnew : ((w1.alloc (.cells #[.int .i64 (kd : Nat), .string ⟨T.toArray⟩, .int .i64 (v : Nat), .int .i64 k] 67)).alloc (.cells #[.int .i64 (kd : Nat), .string ⟨T.toArray⟩, .int .i64 (v : Nat), .int .i64 k] 67)).heap[w1.heap.size + 1]? = some (.cells #[.int .i64 (kd : Nat), .string ⟨T.toArray⟩, .int .i64 (v : Nat), .int .i64 k] 67) := by
            have := World.alloc_heap_new (w1.alloc (.cells #[.int .i64 (kd : Nat), .string ⟨T.toArray⟩, .int .i64 (v : Nat), .int .i64 k] 67)) (.cells #[.int .i64 (kd : Nat), .string ⟨T.toArray⟩, .int .i64 (v : Nat), .int .i64 k] 67)
            rwa [World.size_alloc] at this
          have HBOX := Lib.hid hbox; have HNEW := Lib.hid hnew
          clear hgap hbox hnew
          have hws := HB1.out.size
          go_wp2_with (refine wpList_append_t _ rfl (.tmp 35) (.tmp 37) rfl w.heap.size _ pre n HPN.out rfl (World.ownsRow.alloc (World.ownsRow.alloc HO1.out _) _) (w1.heap.size + 1) ⟨kd, T, v, k⟩ rfl HNEW.out (by have := HPN.out; omega) (by simp; omega) ?_; intro g2 cap2 w2 hown' hgrow hbel; have hbx := HBOX.out _ hgrow; have hsz2 := HSZ.out)
          have HOW := Lib.hid hown'; have HBW := Lib.hid (hbel _ _ (Nat.le_refl _) ((HB1.out.alloc _).alloc _))
          clear hown' hgrow hbel
          refine (HG1.out _).mono ?_; rintro e w3 ⟨rfl, rfl⟩
          have hgl : gapL false (t.data.toList.drop (k + m)) ≤ t.size - (k + m) := by
            have h1 := gapL_le (t.data.toList.drop (k + m)) false
            rw [List.length_drop, Array.length_toList] at h1
            exact h1
          have hlx2 := lx_skip HLX'.out
          rw [List.drop_drop] at hlx2
          have hgs2 := gap_skip (t.data.toList.drop (k + m))
          rw [List.drop_drop] at hgs2
          obtain ⟨g, hge⟩ : ∃ g, gapL false (t.data.toList.drop (k + m)) = g := ⟨_, rfl⟩
          rw [hge] at hgl hlx2 hgs2 ⊢
          have HL2 := Lib.hid hlx2; have HG2 := Lib.hid hgs2
          clear hlx2 hgs2 hge
          go_wp2
          go_roundw
          case rel =>
            exact ⟨k + m + g, n + 1, cap2, _, pre ++ [⟨kd, T, v, k⟩], us', congrArg (Value.int .i64) (by omega), rfl, by omega, by omega, Lib.hid (by rw [List.length_append, HPN.out]; rfl), HL2, HG2, Lib.hid (by rw [HTS.out, List.append_assoc]; rfl), HOW, HBW⟩
          case measure => simp [intOf]; omega
    · have hus := HL.out
      rw [drop_end t k (by omega)] at hus
      obtain ⟨rfl, rfl⟩ := lx_det hus (Lx.nil k [] rfl)
      have hts : ts = pre := by rw [HTS.out, List.append_nil]
      have hl := lexAll_done HLEN.out HLX.out (by rw [hts, HPN.out]; exact hn5)
      have HLL := Lib.hid hl
      have hdk : decide ((k : Int) < (t.size : Int)) = false := by simp; omega
      have HTS' := Lib.hid hts
      clear hl hts hus
      go_wp2
      refine bodyPost_ret (v := .tuple #[.slice q n cap, .int .i64 (0 : Nat), .int .i64 0]) (by simp [results, Tryz.results10, go_sem]) rfl ?_
      refine lexPost_of HLL.out (B := w.heap.size) ?_ HSW.out
      unfold OwnT
      rw [HTS'.out, HPN.out]; exact HO.out
theorem rlex_any (t : ByteArray) (ht : t.size ≤ 1000000) (w : World) : Calls Tryz.prog 10 #[.string t] w (LexPost t.data.toList w) := by
  rcases Nat.lt_or_ge 20000 t.size with h | h
  · exact rlex_long t ht h w
  · exact rlex_short t h w
end Go.Proofs.YtlfjdohjfmfcdaaGreatDoor
