/-
  The walks of View and of what it calls.
-/
import Derived.Test.YtdmancneccfgeaaWalkCrosses
namespace Go.Proofs.Ytdmancneccfgeaa.Sg
open Go.RowKit Go.Sort Foyer.Hall Foyer.Sight Go.Proofs.Ytdmancneccfgeaa.Hl

set_option maxRecDepth 100000 in
theorem squared_any (p s : Pt) (h : Int) (hc : CoV s h p) (w : World) :
    Calls Try.prog 25 #[.agg #[.int .i64 p.x, .int .i64 p.y], .agg #[.int .i64 s.x, .int .i64 s.y], .int .i64 h] w fun e w' => e = .returned (.int .i64 (dist p s h)) ∧ Below w.heap.size w w' := by
  have g : ∀ n, n ∈ [p.x, p.y, s.x, s.y, h] → coord n := hc
  have h1 := g p.x (by simp)
  have h2 := g p.y (by simp)
  have h3 := g s.x (by simp)
  have h4 := g s.y (by simp)
  have h5 := g h (by simp)
  unfold coord at *
  have e1 : wrap64 (p.x - s.x) = p.x - s.x := wrap_in (by omega) (by omega)
  have e2 : wrap64 (p.y - s.y) = p.y - s.y := wrap_in (by omega) (by omega)
  have p1 := mul_small (u := p.x - s.x) (v := p.x - s.x) (by omega) (by omega) (by omega) (by omega)
  have p2 := mul_small (u := p.y - s.y) (v := p.y - s.y) (by omega) (by omega) (by omega) (by omega)
  have p3 := mul_small (u := h) (v := h) (by omega) (by omega) (by omega) (by omega)
  have e3 : wrap64 ((p.x - s.x) * (p.x - s.x)) = (p.x - s.x) * (p.x - s.x) := wrap_in (by omega) (by omega)
  have e4 : wrap64 ((p.y - s.y) * (p.y - s.y)) = (p.y - s.y) * (p.y - s.y) := wrap_in (by omega) (by omega)
  have e5 : wrap64 (h * h) = h * h := wrap_in (by omega) (by omega)
  have e6 : wrap64 ((p.x - s.x) * (p.x - s.x) + (p.y - s.y) * (p.y - s.y)) = (p.x - s.x) * (p.x - s.x) + (p.y - s.y) * (p.y - s.y) := wrap_in (by omega) (by omega)
  have e7 : wrap64 ((p.x - s.x) * (p.x - s.x) + (p.y - s.y) * (p.y - s.y) + h * h) = (p.x - s.x) * (p.x - s.x) + (p.y - s.y) * (p.y - s.y) + h * h := wrap_in (by omega) (by omega)
  have HE := Lib.hid (And.intro e1 (And.intro e2 (And.intro e3 (And.intro e4 (And.intro e5 (And.intro e6 e7))))))
  clear e1 e2 e3 e4 e5 e6 e7 p1 p2 p3 h1 h2 h3 h4 h5 g hc
  unfold dist
  go_enter Try.func25, Try.ntmps25
  go_wp2_with fail
  go_quiet (fail)
  go_wp2
  go_ret
  obtain ⟨e1, e2, e3, e4, e5, e6, e7⟩ := HE.out
  rw [e1, e2, e3, e4, e5, e6, e7]
  exact ⟨rfl, (((Since.refl w).alloc _).alloc _).drewN _⟩

/-- The closure that makes a view worse. -/
theorem worsen_any (c : Bool) (v : Int) (h1 : 0 ≤ v) (h2 : v ≤ 3) (b : Nat) (w : World) (hb : Blk w b 3 [.int .i64 v]) :
    Calls Try.prog 24 #[.bool c, .pointer (some ⟨b, 0, none⟩)] w fun e w' => e = .returned (.tuple #[]) ∧ Blk w' b 3 [.int .i64 (bump c v)] ∧ Kp (fun k => k = b) w w' := by
  have c0 := hb.cell (i := 0) rfl
  have f0 := hb.free 0
  have HB := Lib.hid hb; clear hb
  cases c
  · have HE : Hid (bump false v = v) := Lib.hid (by unfold bump; simp)
    go_enter Try.func24, Try.ntmps24
    go_wp2
    go_end0
    exact ⟨rfl, by rw [HE.out]; exact HB.out, Kp.refl _ _⟩
  · by_cases h3 : v < 3
    · have HE : Hid (bump true v = v + 1) := Lib.hid (by unfold bump; simp [h3])
      have e1 : wrap64 (v + 1) = v + 1 := wrap_in (by omega) (by omega)
      go_enter Try.func24, Try.ntmps24
      go_wp2
      go_end0
      refine ⟨rfl, ?_, ?_⟩
      · rw [HE.out]
        first
          | exact (HB.out.set 0 (.int .i64 (v + 1))).cast rfl
          | (rw [e1]; exact (HB.out.set 0 (.int .i64 (v + 1))).cast rfl)
      · exact (Kp.refl (fun k => k = b) w).setCell (p := ⟨b, 0, none⟩) (Or.inl rfl) _
    · have h4 : v = 3 := by omega
      subst h4
      go_enter Try.func24, Try.ntmps24
      go_wp2
      go_end0
      exact ⟨rfl, HB.out, Kp.refl _ _⟩

set_option maxRecDepth 100000 in
set_option maxHeartbeats 2000000 in
theorem view_any (h : HallZ) (q : Option Addr) (n cap : Nat) (k : Int) (p : Pt) (w : World) (hl : Lk levelL w w.heap.size (.slice q n cap) h.levels) :
    Calls Try.prog 13 #[.agg #[.string ⟨h.name.toArray⟩, .int .i64 h.stage.x, .int .i64 h.stage.y, .slice q n cap], .int .i64 k, .agg #[.int .i64 p.x, .int .i64 p.y]] w fun e w' =>
      e = .returned (.int .i64 (view h k p)) ∧ Below w.heap.size w w' := by
  obtain ⟨w2, hw2, sw2, bw2, kh, kp⟩ : ∃ w2, (w.alloc (.cells #[.string ⟨h.name.toArray⟩, .int .i64 h.stage.x, .int .i64 h.stage.y, .slice q n cap] 28)).alloc (.cells #[.int .i64 p.x, .int .i64 p.y] 23) = w2 ∧ w2.heap.size = w.heap.size + 1 + 1 ∧ Since w w2 ∧ Blk w2 (w.heap.size) 28 [.string ⟨h.name.toArray⟩, .int .i64 h.stage.x, .int .i64 h.stage.y, .slice q n cap] ∧ Blk w2 (w.heap.size + 1) 23 [.int .i64 p.x, .int .i64 p.y] := by
    obtain ⟨v1, e1⟩ : ∃ x, w.alloc (.cells #[.string ⟨h.name.toArray⟩, .int .i64 h.stage.x, .int .i64 h.stage.y, .slice q n cap] 28) = x := ⟨_, rfl⟩
    have s1 : v1.heap.size = w.heap.size + 1 := by rw [← e1, World.size_alloc]
    have b1 : Since w v1 := by rw [← e1]; exact (Since.refl w).alloc _
    have k1_1 : Blk v1 (w.heap.size) 28 [.string ⟨h.name.toArray⟩, .int .i64 h.stage.x, .int .i64 h.stage.y, .slice q n cap] := by rw [← e1]; exact Blk.new _ _ _
    obtain ⟨v2, e2⟩ : ∃ x, v1.alloc (.cells #[.int .i64 p.x, .int .i64 p.y] 23) = x := ⟨_, rfl⟩
    have s2 : v2.heap.size = w.heap.size + 1 + 1 := by rw [← e2, World.size_alloc, s1]
    have b2 : Since w v2 := by rw [← e2]; exact b1.alloc _
    have k2_2 : Blk v2 (w.heap.size + 1) 23 [.int .i64 p.x, .int .i64 p.y] := by rw [← e2, ← s1]; exact Blk.new _ _ _
    have k1_2 : Blk v2 (w.heap.size) 28 [.string ⟨h.name.toArray⟩, .int .i64 h.stage.x, .int .i64 h.stage.y, .slice q n cap] := by rw [← e2]; exact k1_1.alloc _
    rw [e1, e2]
    exact ⟨_, rfl, s2, b2, k1_2, k2_2⟩
  have hn := hl.len
  have HL := Lib.hid (hl.below (show Below w.heap.size w w2 from bw2))
  have HS2 := Lib.hid sw2; have HB2 := Lib.hid bw2; have HW2 := Lib.hid hw2; have KH := Lib.hid kh; have KP := Lib.hid kp
  have c1 := kh.cell (i := 1) rfl
  have c2 := kh.cell (i := 2) rfl
  have c3 := kh.cell (i := 3) rfl
  have d0 := kp.cell (i := 0) rfl
  have d1 := kp.cell (i := 1) rfl
  clear hl hw2 sw2 bw2 kh kp
  by_cases hk0 : 0 ≤ k
  · obtain ⟨i, rfl⟩ : ∃ i : Nat, k = i := ⟨k.toNat, by omega⟩
    by_cases hin : i < n
    · obtain ⟨x, hx⟩ : ∃ x, h.levels[i]? = some x := ⟨_, List.getElem?_eq_getElem (by omega)⟩
      have HV : Hid (view h i p = viewL h.stage x p) := Lib.hid (by unfold view; rw [if_pos hk0, Int.toNat_natCast, hx])
      obtain ⟨lb, lo, c, rfl, hlb, hc, hcell⟩ := HL.out.at hx
      obtain ⟨v1, v2, v3, v4, v5, rfl, hm0⟩ := hc
      obtain ⟨p1, m1, rfl⟩ := hm0.blocks.slice
      obtain ⟨n1, hn1⟩ : ∃ n, x.blocks.length = n := ⟨_, rfl⟩
      obtain ⟨p2, m2, rfl⟩ := hm0.areas.slice
      obtain ⟨n2, hn2⟩ : ∃ n, x.areas.length = n := ⟨_, rfl⟩
      obtain ⟨p3, m3, rfl⟩ := hm0.aisles.slice
      obtain ⟨n3, hn3⟩ : ∃ n, x.aisles.length = n := ⟨_, rfl⟩
      obtain ⟨p4, m4, rfl⟩ := hm0.pillars.slice
      obtain ⟨n4, hn4⟩ : ∃ n, x.pillars.length = n := ⟨_, rfl⟩
      obtain ⟨p5, m5, rfl⟩ := hm0.doors.slice
      obtain ⟨n5, hn5⟩ : ∃ n, x.doors.length = n := ⟨_, rfl⟩
      rw [hn1, hn2, hn3, hn4, hn5] at hm0 hcell
      have HP := Lib.hid hm0.pillars
      have l0 := hcell 0 _ rfl
      have l1 := hcell 1 _ rfl
      have l2 := hcell 2 _ rfl
      have l3 := hcell 3 _ rfl
      have l4 := hcell 4 _ rfl
      have l5 := hcell 5 _ rfl
      have l6 := hcell 6 _ rfl
      have l7 := hcell 7 _ rfl
      rw [show levelL.size = 8 from rfl] at l0 l1 l2 l3 l4 l5 l6 l7
      rw [Nat.add_zero] at l0
      have hki : (0 : Int) ≤ i ∧ (i : Int) < n := by omega
      have HN4 := Lib.hid hn4
      clear hcell hlb hn1 hn2 hn3 hn4 hn5 hm0 hx hk0 hin hn
      obtain ⟨w3, hw3, sw3, bw3, kl⟩ : ∃ w3, w2.alloc (.cells #[.string ⟨x.name.toArray⟩, .int .i64 x.height, .slice p1 n1 m1, .slice p2 n2 m2, .slice p3 n3 m3, .slice p4 n4 m4, .slice p5 n5 m5, .int .i64 x.pos] 51) = w3 ∧ w3.heap.size = w2.heap.size + 1 ∧ Since w2 w3 ∧ Blk w3 (w2.heap.size) 51 [.string ⟨x.name.toArray⟩, .int .i64 x.height, .slice p1 n1 m1, .slice p2 n2 m2, .slice p3 n3 m3, .slice p4 n4 m4, .slice p5 n5 m5, .int .i64 x.pos] := by
        obtain ⟨v1, e1⟩ : ∃ wq, w2.alloc (.cells #[.string ⟨x.name.toArray⟩, .int .i64 x.height, .slice p1 n1 m1, .slice p2 n2 m2, .slice p3 n3 m3, .slice p4 n4 m4, .slice p5 n5 m5, .int .i64 x.pos] 51) = wq := ⟨_, rfl⟩
        have s1 : v1.heap.size = w2.heap.size + 1 := by rw [← e1, World.size_alloc]
        have b1 : Since w2 v1 := by rw [← e1]; exact (Since.refl w2).alloc _
        have k1_1 : Blk v1 (w2.heap.size) 51 [.string ⟨x.name.toArray⟩, .int .i64 x.height, .slice p1 n1 m1, .slice p2 n2 m2, .slice p3 n3 m3, .slice p4 n4 m4, .slice p5 n5 m5, .int .i64 x.pos] := by rw [← e1]; exact Blk.new _ _ _
        rw [e1]
        exact ⟨_, rfl, s1, b1, k1_1⟩
      obtain ⟨w4, hw4, sw4, bw4, kr⟩ : ∃ w4, w3.alloc (.cells #[.int .i64 p.x, .int .i64 p.y, .int .i64 h.stage.x, .int .i64 h.stage.y, .int .i64 x.height] 3) = w4 ∧ w4.heap.size = w3.heap.size + 1 ∧ Since w3 w4 ∧ Blk w4 (w3.heap.size) 3 [.int .i64 p.x, .int .i64 p.y, .int .i64 h.stage.x, .int .i64 h.stage.y, .int .i64 x.height] := by
        obtain ⟨v1, e1⟩ : ∃ wq, w3.alloc (.cells #[.int .i64 p.x, .int .i64 p.y, .int .i64 h.stage.x, .int .i64 h.stage.y, .int .i64 x.height] 3) = wq := ⟨_, rfl⟩
        have s1 : v1.heap.size = w3.heap.size + 1 := by rw [← e1, World.size_alloc]
        have b1 : Since w3 v1 := by rw [← e1]; exact (Since.refl w3).alloc _
        have k1_1 : Blk v1 (w3.heap.size) 3 [.int .i64 p.x, .int .i64 p.y, .int .i64 h.stage.x, .int .i64 h.stage.y, .int .i64 x.height] := by rw [← e1]; exact Blk.new _ _ _
        rw [e1]
        exact ⟨_, rfl, s1, b1, k1_1⟩
      obtain ⟨w5, hw5, sw5, bw5, kv⟩ : ∃ w5, w4.alloc (.cells #[.int .i64 0] 3) = w5 ∧ w5.heap.size = w4.heap.size + 1 ∧ Since w4 w5 ∧ Blk w5 (w4.heap.size) 3 [.int .i64 0] := by
        obtain ⟨v1, e1⟩ : ∃ wq, w4.alloc (.cells #[.int .i64 0] 3) = wq := ⟨_, rfl⟩
        have s1 : v1.heap.size = w4.heap.size + 1 := by rw [← e1, World.size_alloc]
        have b1 : Since w4 v1 := by rw [← e1]; exact (Since.refl w4).alloc _
        have k1_1 : Blk v1 (w4.heap.size) 3 [.int .i64 0] := by rw [← e1]; exact Blk.new _ _ _
        rw [e1]
        exact ⟨_, rfl, s1, b1, k1_1⟩
      have HA := Lib.hid (areCo_any [p.x, p.y, h.stage.x, h.stage.y, x.height] w3.heap.size 5 w4 (by simp) (fun j z hz => kr.cell (i := j) (by
        match j, hz with
        | 0, hz => cases hz; rfl
        | 1, hz => cases hz; rfl
        | 2, hz => cases hz; rfl
        | 3, hz => cases hz; rfl
        | 4, hz => cases hz; rfl
        | (n + 5), hz => simp at hz)))
      have HW3 := Lib.hid hw3; have HW4 := Lib.hid hw4
      have hb24 : Since w2 w4 := bw3.call bw4
      have HB4 : Hid (Since w w4) := Lib.hid (HB2.out.call hb24)
      have HL4 := Lib.hid (HP.out.kept (hb24.mono HB2.out.size).block)
      have kh4 : Blk w4 _ _ _ := (hb24.block _ KH.out.lt).trans KH.out
      have kp4 : Blk w4 _ _ _ := (hb24.block _ KP.out.lt).trans KP.out
      have kl4 : Blk w4 _ _ _ := (bw4.block _ kl.lt).trans kl
      have HS3 := Lib.hid sw3; have HS4 := Lib.hid sw4
      have y1 := kl.cell (i := 1) rfl
      have y5 := kl.cell (i := 5) rfl
      have KH3 := Lib.hid (show Blk w3 _ _ _ from (bw3.block _ KH.out.lt).trans KH.out)
      have KP3 := Lib.hid (show Blk w3 _ _ _ from (bw3.block _ KP.out.lt).trans KP.out)
      have KH4 := Lib.hid kh4; have KP4 := Lib.hid kp4; have KL4 := Lib.hid kl4
      have HW5 := Lib.hid hw5; have KV := Lib.hid kv
      have HB5 : Hid (Since w w5) := Lib.hid (HB4.out.call bw5)
      have KH5 := Lib.hid (show Blk w5 _ _ _ from (bw5.block _ kh4.lt).trans kh4)
      have KP5 := Lib.hid (show Blk w5 _ _ _ from (bw5.block _ kp4.lt).trans kp4)
      have KL5 := Lib.hid (show Blk w5 _ _ _ from (bw5.block _ kl4.lt).trans kl4)
      have HL5 := Lib.hid (HL4.out.kept (bw5.mono HB4.out.size).block)
      have HVV : Hid (w.heap.size < w4.heap.size ∧ w.heap.size + 1 < w4.heap.size ∧ w2.heap.size < w4.heap.size ∧ w4.heap.size < w5.heap.size) := Lib.hid ⟨kh4.lt, kp4.lt, kl4.lt, by omega⟩
      clear hw5 sw5 bw5 kv
      clear hw3 hw4 sw3 sw4 bw3 bw4 kl kr hb24 kh4 kp4 kl4
      go_enter Try.func13, Try.ntmps13
      go_upto_region 1 with fail
      rw [HW2.out]
      go_upto_region 4 with fail
      rw [HW3.out]
      clear c1 c2 c3 d0 d1 l0 l1 l2 l3 l4 l5 l6 l7
      have c1 := KH3.out.cell (i := 1) rfl
      have c2 := KH3.out.cell (i := 2) rfl
      have d0 := KP3.out.cell (i := 0) rfl
      have d1 := KP3.out.cell (i := 1) rfl
      go_wp2_with fail
      rw [HW4.out]
      refine HA.out.mono ?_; rintro e w' ⟨rfl, rfl⟩
      clear c1 c2 d0 d1 y1 y5
      by_cases hco : CoV h.stage x.height p
      · have HPC : Hid (decide (AllC [p.x, p.y, h.stage.x, h.stage.y, x.height]) = true) := Lib.hid (decide_eq_true hco)
        have HV2 : Hid (viewL h.stage x p = views p h.stage x.pillars (far p h.stage x.height)) := Lib.hid (by unfold viewL; rw [if_pos hco])
        have HQ := Lib.hid (squared_any p h.stage x.height hco)
        rw [HPC.out]
        clear hco
        have kl4 := KL4.out
        have y1 := kl4.cell (i := 1) rfl
        have c1 := KH4.out.cell (i := 1) rfl
        have c2 := KH4.out.cell (i := 2) rfl
        have d0 := KP4.out.cell (i := 0) rfl
        have d1 := KP4.out.cell (i := 1) rfl
        clear kl4
        go_upto_region 8 with fail
        rw [HW5.out]
        clear y1 c1 c2 d0 d1
        have y1 := KL5.out.cell (i := 1) rfl
        have c1 := KH5.out.cell (i := 1) rfl
        have c2 := KH5.out.cell (i := 2) rfl
        have d0 := KP5.out.cell (i := 0) rfl
        have d1 := KP5.out.cell (i := 1) rfl
        go_wp2_with fail
        refine (HQ.out w5).mono ?_
        rintro e w6 ⟨rfl, hb⟩
        have V6 : Blk w6 _ _ _ := (hb.block _ KV.out.lt).trans KV.out
        have K6 : Kp (fun k => k = w4.heap.size) w5 w6 := Kp.of_below hb
        have HF : Hid (far p h.stage x.height = bump (decide (9000000 < dist p h.stage x.height)) (bump (decide (1000000 < dist p h.stage x.height)) 0)) := Lib.hid rfl
        have HD1 := bump_range (c := decide (1000000 < dist p h.stage x.height)) (v := 0) (by decide) (by decide)
        clear y1 c1 c2 d0 d1 hb HQ
        generalize dist p h.stage x.height = d at *
        go_wp2_with fail
        refine (worsen_any (decide (1000000 < d)) 0 (by decide) (by decide) w4.heap.size w6 V6).mono ?_
        rintro e w7 ⟨rfl, V7, K7⟩
        replace K7 := K6.trans K7
        clear K6 V6
        generalize hz1 : bump (decide (1000000 < d)) 0 = z1 at *
        clear hz1
        go_wp2_with fail
        refine (worsen_any (decide (9000000 < d)) z1 HD1.1 HD1.2 w4.heap.size w7 V7).mono ?_
        rintro e w8 ⟨rfl, V8, K8⟩
        replace K8 := K7.trans K8
        clear K7 V7
        have HD2 := bump_range (c := decide (9000000 < d)) (v := z1) HD1.1 HD1.2
        rw [← HF.out] at V8 HD2
        clear HF HD1
        generalize far p h.stage x.height = z2 at *
        have HK : Hid (∀ wr, Kp (fun k => k = w4.heap.size) w5 wr → Blk wr w.heap.size 28 _ ∧ Blk wr (w.heap.size + 1) 23 _ ∧ Blk wr w2.heap.size 51 _ ∧ Lk boxL wr w.heap.size (.slice p4 n4 m4) x.pillars ∧ Below w.heap.size w wr) := Lib.hid fun wr hk => by
          obtain ⟨u1, u2, u3, u4⟩ := HVV.out
          exact ⟨KH5.out.kept hk (by omega), KP5.out.kept hk (by omega), KL5.out.kept hk (by omega), HL5.out.kept (fun k hlt => hk.block k (by omega) (by omega)), HB5.out.trans (hk.below HB5.out.size (fun k e => by omega))⟩
        have y5 := (HK.out _ K8).2.2.1.cell (i := 5) rfl
        have HZ8 := Lib.hid V8; have HK8 := Lib.hid K8
        have hn4b : n4 ≤ 9223372036854775807 := by have := HL5.out.len.2; unfold maxLen at this; omega
        have HD := Lib.hid HD2
        clear V8 K8 HD2 KH5 KP5 KL5 HL5 HB5 HL4 HB4 HP HA HW2 HW3 HW4 HW5 KH KP KH3 KP3 KH4 KP4 KL4 HS2 HS3 HS4 HB2 HL
        go_wp2
        clear y5
        go_loopw [60] (fun t wr => ∃ j : Nat, j ≤ n4 ∧ t = .int .i64 j ∧ Hid (Kp (fun k => k = w4.heap.size) w5 wr) ∧ Hid (Blk wr w4.heap.size 3 [.int .i64 (views p h.stage (x.pillars.take j) z2)])) (fun t _ => n4 - (intOf t).toNat)
        case atStart => exact ⟨0, Nat.zero_le _, rfl, HK8, HZ8⟩
        case round =>
          obtain ⟨j, hj, rfl, HR, HZ⟩ := hrel
          obtain ⟨r1, r2, r3, r4, r5⟩ := HK.out _ HR.out
          by_cases hjn : j < n4
          · obtain ⟨b, hb⟩ : ∃ b, x.pillars[j]? = some b := ⟨_, List.getElem?_eq_getElem (by have := HN4.out; omega)⟩
            obtain ⟨pb, po, c, rfl, hpb, hc, hcell⟩ := r4.at hb
            obtain rfl := hc
            have f0 := hcell 0 _ rfl
            have f1 := hcell 1 _ rfl
            have f2 := hcell 2 _ rfl
            have f3 := hcell 3 _ rfl
            rw [show boxL.size = 4 from rfl] at f0 f1 f2 f3
            rw [Nat.add_zero] at f0
            have hji : (0 : Int) ≤ j ∧ (j : Int) < n4 := by omega
            obtain ⟨wl, hwl, swl, bwl, kb⟩ : ∃ wl, wr.alloc (.cells #[.int .i64 b.x, .int .i64 b.y, .int .i64 b.x2, .int .i64 b.y2] 25) = wl ∧ wl.heap.size = wr.heap.size + 1 ∧ Since wr wl ∧ Blk wl (wr.heap.size) 25 [.int .i64 b.x, .int .i64 b.y, .int .i64 b.x2, .int .i64 b.y2] := by
              obtain ⟨v1, e1⟩ : ∃ wq, wr.alloc (.cells #[.int .i64 b.x, .int .i64 b.y, .int .i64 b.x2, .int .i64 b.y2] 25) = wq := ⟨_, rfl⟩
              have s1 : v1.heap.size = wr.heap.size + 1 := by rw [← e1, World.size_alloc]
              have b1 : Since wr v1 := by rw [← e1]; exact (Since.refl wr).alloc _
              have k1_1 : Blk v1 (wr.heap.size) 25 [.int .i64 b.x, .int .i64 b.y, .int .i64 b.x2, .int .i64 b.y2] := by rw [← e1]; exact Blk.new _ _ _
              rw [e1]
              exact ⟨_, rfl, s1, b1, k1_1⟩
            have HWL := Lib.hid hwl; have HKB := Lib.hid kb
            have HKL : Hid (Kp (fun k => k = w4.heap.size) w5 wl) := Lib.hid (HR.out.trans (Kp.of_below bwl))
            have HZL : Hid (Blk wl w4.heap.size 3 _) := Lib.hid ((bwl.block _ HZ.out.lt).trans HZ.out)
            have HX := Lib.hid hb
            have hrg := views_range p h.stage (x.pillars.take j) z2 HD.out.1 HD.out.2
            have HG := Lib.hid hrg
            clear hcell hpb hb hwl swl bwl kb r1 r2 r3 r4 r5 HR HZ hrg
            go_upto_region 14 with fail
            rw [HWL.out]
            clear f0 f1 f2 f3
            obtain ⟨r1, r2, r3, r4, r5⟩ := HK.out _ HKL.out
            have c1 := r1.cell (i := 1) rfl
            have c2 := r1.cell (i := 2) rfl
            have d0 := r2.cell (i := 0) rfl
            have d1 := r2.cell (i := 1) rfl
            have g0 := HKB.out.cell (i := 0) rfl
            have g1 := HKB.out.cell (i := 1) rfl
            have g2 := HKB.out.cell (i := 2) rfl
            have g3 := HKB.out.cell (i := 3) rfl
            clear r1 r2 r3 r4 r5
            go_wp2_with fail
            refine (crosses_any p h.stage b wl).mono ?_
            rintro e wc ⟨rfl, hbc⟩
            have HKC : Hid (Kp (fun k => k = w4.heap.size) w5 wc) := Lib.hid (HKL.out.trans (Kp.of_below hbc))
            have zc : Blk wc w4.heap.size 3 _ := (hbc.block _ HZL.out.lt).trans HZL.out
            have HST := Lib.hid (views_step p h.stage HX.out z2)
            clear c1 c2 d0 d1 g0 g1 g2 g3 hbc HKL HZL HX HKB HWL
            generalize cross p h.stage b = cr at *
            go_wp2_with fail
            refine (worsen_any cr _ HG.out.1 HG.out.2 w4.heap.size wc zc).mono ?_
            rintro e wd ⟨rfl, zd, hkd⟩
            rw [← HST.out] at zd
            have HZD := Lib.hid zd
            have HKD := Lib.hid (HKC.out.trans hkd)
            clear zc zd hkd HKC HST HG
            go_wp2
            go_roundw
            case rel => exact ⟨j + 1, by omega, by go_num, HKD, HZD⟩
            case measure => simp [intOf]; omega
          · have e : j = n4 := by omega
            subst e
            rw [show x.pillars.take j = x.pillars from List.take_of_length_le (by have := HN4.out; omega)] at HZ
            have z0 := HZ.out.cell (i := 0) rfl
            have HRB := Lib.hid r5
            clear r1 r2 r3 r4 r5
            go_wp2
            go_ret
            exact ⟨by rw [HV.out, HV2.out]; rfl, HRB.out⟩
      · have HPC : Hid (decide (AllC [p.x, p.y, h.stage.x, h.stage.y, x.height]) = false) := Lib.hid (decide_eq_false hco)
        have HV2 : Hid (viewL h.stage x p = 3) := Lib.hid (by unfold viewL; rw [if_neg hco])
        rw [HPC.out]
        clear hco
        go_wp2
        go_ret
        exact ⟨by rw [HV.out, HV2.out]; rfl, HB4.out⟩
    · have e2 : n ≤ i := by omega
      have HV : Hid (view h i p = 3) := Lib.hid (by unfold view; rw [if_pos hk0, Int.toNat_natCast, List.getElem?_eq_none (by omega)])
      go_enter Try.func13, Try.ntmps13
      go_upto_region 1 with fail
      rw [HW2.out]
      go_wp2
      go_ret
      exact ⟨by rw [HV.out]; rfl, HB2.out⟩
  · have e1 : k < 0 := by omega
    have HV : Hid (view h k p = 3) := Lib.hid (by unfold view; rw [if_neg hk0])
    go_enter Try.func13, Try.ntmps13
    go_upto_region 1 with fail
    rw [HW2.out]
    go_wp2
    go_ret
    exact ⟨by rw [HV.out]; rfl, HB2.out⟩
end Go.Proofs.Ytdmancneccfgeaa.Sg
