/-
  Outcomes: the law.
-/
import Derived.Test.YtdolejkpnpchaaaDoorOutY
import Derived.Test.YtdolejkpnpchaaaDoorOutH
namespace Go.Proofs.YtdolejkpnpchaaaDoor
open Go.RowKit

/-- What the law's argument keeps. -/
structure OutIn (w : World) (oa : Option Addr) (ga a0 n : Nat) (A : Nat → AD) (P : Nat → DP) (orr : Option Addr) (gr r0 m : Nat) (R : Nat → RD) (ot : Option Addr) (bt o nt : Nat) (p : Nat → SP) (D : Nat → SD) : Prop where
  ans : AnsO w oa ga a0 n A P
  alen : ALen A n
  ran : RanO w orr gr r0 m R
  rlen : RLen R m
  tab : SlotsAt w ot bt o nt p D
  hn : n ≤ 9223372036854775807
  hm : m ≤ 9223372036854775807
  ai : ∀ i, i < n → i64R (A i).call ∧ i64R (A i).rev ∧ ∀ j, j < (A i).nd → i64R ((A i).dg j).1 ∧ i64R ((A i).dg j).2
  ri : ∀ i, i < m → i64R (R i).kind ∧ i64R (R i).rev ∧ i64R (R i).wk

set_option maxRecDepth 100000 in
set_option maxHeartbeats 4000000 in
theorem l_out (code drops rev slots : Int) (oa : Option Addr) (ga a0 n ca : Nat) (A : Nat → AD) (P : Nat → DP) (orr : Option Addr) (gr r0 m cr : Nat) (R : Nat → RD) (ot : Option Addr) (bt o nt ct : Nat) (p : Nat → SP) (D : Nat → SD) (w : World) (h : OutIn w oa ga a0 n A P orr gr r0 m R ot bt o nt p D) (hI : i64R code ∧ i64R rev ∧ i64R drops ∧ i64R slots) (ht : Ten w) :
    Calls Tryd.prog 3 #[.agg #[.int .i64 code, .slice oa n ca, .slice orr m cr, .int .i64 drops, .int .i64 rev, .int .i64 slots, .slice ot nt ct]] w fun e w' => e = .returned (.bool true) ∧ Below w.heap.size w w' := by
  obtain ⟨Y, hY⟩ : ∃ Y, Y = w.alloc (.cells #[.int .i64 code, .slice oa n ca, .slice orr m cr, .int .i64 drops, .int .i64 rev, .int .i64 slots, .slice ot nt ct] 28) := ⟨_, rfl⟩
  have BY : Below w.heap.size w Y := by rw [hY]; exact bel1 w _
  have hYs : Y.heap.size = w.heap.size + 1 := by rw [hY]; simp
  have R1 : Y.rowIs w.heap.size 28 7 (t7 (.int .i64 code) (.slice oa n ca) (.slice orr m cr) (.int .i64 drops) (.int .i64 rev) (.int .i64 slots) (.slice ot nt ct)) := by
    rw [hY]; exact rowt7 w _ _ _ _ _ _ _ _
  have HW : Hid (∀ W, Below Y.heap.size Y W → Below w.heap.size w W) := fun W hW => BY.trans (hW.mono (by omega))
  have HR : Hid (∀ W, Below Y.heap.size Y W → W.rowIs w.heap.size 28 7 (t7 (.int .i64 code) (.slice oa n ca) (.slice orr m cr) (.int .i64 drops) (.int .i64 rev) (.int .i64 slots) (.slice ot nt ct))) := fun W hW => R1.of_block (hW.block _ (by omega))
  have C0 := hid_of (s_outcome code drops rev slots oa ga a0 n ca A P orr gr r0 m cr R ot bt o nt ct p D 1048576 Y (by omega) (by omega) h.hn h.hm (h.ans.below BY) h.alen (h.ran.below BY) h.rlen (h.tab.below BY))
  have H : Hid (OutIn w oa ga a0 n A P orr gr r0 m R ot bt o nt p D ∧ (i64R code ∧ i64R rev ∧ i64R drops ∧ i64R slots) ∧ Ten w) := ⟨h, hI, ht⟩
  obtain ⟨⟨x0, x1, x2, x3, x4, x5, x6⟩, _⟩ := seven_at R1
  clear h hI ht R1 BY
  go_enter Tryd.func3, Tryd.ntmps3
  go_upto_region 2 with fail
  rw [← hY]
  clear hY
  go_wp2_with fail
  refine C0.out.mono ?_
  rintro e w1 ⟨r, rfl, hr, b1⟩
  clear C0
  by_cases hneg : r < 0
  · have HE := hid_of (HW.out w1 b1)
    go_wp2
    go_ret
    exact ⟨rfl, HE.out⟩
  · obtain ⟨⟨hn, hA⟩, ⟨hm, hRm⟩, ⟨hnt, hsm⟩⟩ := hr.ok (by omega)
    have HAK : Hid (∀ i, i < n → AOk (A i)) := fun i hi => ⟨(H.out.1.ai i hi).1, (H.out.1.ai i hi).2.1, (hA i hi).1, (hA i hi).2, (H.out.1.ai i hi).2.2⟩
    have HRK : Hid (∀ i, i < m → ROk (R i)) := fun i hi => ⟨(H.out.1.ri i hi).1, (H.out.1.ri i hi).2.1, (H.out.1.ri i hi).2.2, hRm i hi⟩
    have HD : Hid ((∀ i, i < n → (A i).nd ≤ 1048576) ∧ ∀ i, i < nt → (D i).n ≤ 1048576) := ⟨fun i hi => (hA i hi).2, fun i hi => (hsm i hi).2.2.1⟩
    have CT := hid_of (fun (W : World) (hW : Below Y.heap.size Y W) => t_outcome code drops rev slots oa ga a0 n ca A P orr gr r0 m cr R ot bt o nt ct p D W hn HD.out.1 hm hnt HD.out.2 (H.out.1.ans.below (HW.out W hW)) (H.out.1.ran.below (HW.out W hW)) (H.out.1.tab.below (HW.out W hW)))
    obtain ⟨X, hX⟩ : ∃ X, X = outT A n R m code rev drops slots := ⟨_, rfl⟩
    have HX : Hid (X = outT A n R m code rev drops slots) := hX
    clear hA hRm hsm hr hX x0 x1 x2 x3 x4 x5 x6
    obtain ⟨⟨x0, x1, x2, x3, x4, x5, x6⟩, _⟩ := seven_at (HR.out w1 b1)
    have K1 := hid_of (CT.out w1 b1)
    have HB1 := hid_of b1
    clear b1
    go_wp2_with fail
    refine K1.out.mono ?_
    rintro e w2 ⟨b1, b2, b3, q, p2, rfl, A2, Q2, T2, bb2⟩
    have B2 := HB1.out.trans (bb2.mono HB1.out.size)
    have CM := hid_of (m_out code drops rev slots (some ⟨b1, 0, none⟩) b1 n n A (newP A q) (some ⟨b2, 0, none⟩) b2 m m R (.slice (some ⟨b3, 0, none⟩) nt nt) w2 hn hm A2 HAK Q2 HRK H.out.2.1)
    rw [← HX.out] at CM
    have HB2 := hid_of B2
    clear A2 Q2 T2 bb2 B2 K1 x0 x1 x2 x3 x4 x5 x6
    go_wp2_with fail
    refine CM.out.mono ?_
    rintro e w3 ⟨rfl, bb3⟩
    have B3 := HB2.out.trans (bb3.mono HB2.out.size)
    obtain ⟨⟨x0, x1, x2, x3, x4, x5, x6⟩, _⟩ := seven_at (HR.out w3 B3)
    have K3 := hid_of (CT.out w3 B3)
    have HB3 := hid_of B3
    clear CM bb3 B3
    go_wp2_with fail
    refine K3.out.mono ?_
    rintro e w4 ⟨c1, c2, c3, q4, p4, rfl, A4, Q4, T4, bb4⟩
    have B4 := HB3.out.trans (bb4.mono HB3.out.size)
    obtain ⟨Z, hZ⟩ : ∃ Z, Z = w4.alloc (.cells #[.int .i64 code, .slice (some ⟨c1, 0, none⟩) n n, .slice (some ⟨c2, 0, none⟩) m m, .int .i64 drops, .int .i64 rev, .int .i64 slots, .slice (some ⟨c3, 0, none⟩) nt nt] 37) := ⟨_, rfl⟩
    obtain ⟨bZ, hbZ⟩ : ∃ bZ, bZ = w4.heap.size := ⟨_, rfl⟩
    have R4 : Z.rowIs bZ 37 7 (t7 (.int .i64 code) (.slice (some ⟨c1, 0, none⟩) n n) (.slice (some ⟨c2, 0, none⟩) m m) (.int .i64 drops) (.int .i64 rev) (.int .i64 slots) (.slice (some ⟨c3, 0, none⟩) nt nt)) := by
      rw [hZ, hbZ]; exact rowt7 w4 _ _ _ _ _ _ _ _
    have hZs : Z.heap.size = bZ + 1 := by rw [hZ, hbZ]; simp
    have BZ' : Below w4.heap.size w4 Z := by rw [hZ]; exact bel1 w4 _
    have BZ := hid_of (B4.trans (BZ'.mono B4.size))
    have HRZ : Hid (∀ W, Below Z.heap.size Z W → W.rowIs bZ 37 7 (t7 (.int .i64 code) (.slice (some ⟨c1, 0, none⟩) n n) (.slice (some ⟨c2, 0, none⟩) m m) (.int .i64 drops) (.int .i64 rev) (.int .i64 slots) (.slice (some ⟨c3, 0, none⟩) nt nt))) := fun W hW => R4.of_block (hW.block _ (by omega))
    have HA4 := hid_of (A4.below BZ')
    have HQ4 := hid_of (Q4.below BZ')
    have HT4 := hid_of (T4.below BZ')
    have CI := hid_of (p_out code drops rev slots (some ⟨c1, 0, none⟩) c1 n n A (newP A q4) (some ⟨c2, 0, none⟩) c2 m m R (.slice (some ⟨c3, 0, none⟩) nt nt) Z hn hm HA4 HAK HQ4 HRK H.out.2.1 (H.out.2.2.below (HW.out Z BZ.out)))
    rw [← HX.out] at CI
    obtain ⟨⟨y0, y1, y2, y3, y4, y5, y6⟩, _⟩ := seven_at R4
    clear A4 Q4 T4 bb4 B4 K3 R4 BZ' x0 x1 x2 x3 x4 x5 x6
    go_upto_region 7 with fail
    rw [← hZ, ← hbZ]
    clear hZ hbZ
    go_wp2_with fail
    refine CI.out.mono ?_
    rintro e w5 ⟨rfl, bb5⟩
    have B5 := hid_of (BZ.out.trans (bb5.mono BZ.out.size))
    obtain ⟨⟨x0, x1, x2, x3, x4, x5, x6⟩, _⟩ := seven_at (HR.out w5 B5.out)
    clear y0 y1 y2 y3 y4 y5 y6 CI
    obtain ⟨⟨y0, y1, y2, y3, y4, y5, y6⟩, _⟩ := seven_at (HRZ.out w5 bb5)
    have HZ5 := hid_of bb5
    clear bb5
    go_upto_region 10 with fail
    have B50 : Below Y.heap.size Y w5 := B5.out
    have HB56 := hid_of (fun (W : World) (hW : Below w5.heap.size w5 W) => And.intro (HR.out W (B5.out.trans (hW.mono B5.out.size))) (HRZ.out W (HZ5.out.trans (hW.mono HZ5.out.size))))
    have CEQ := hid_of (fun (W6 : World) (h6 : Below w5.heap.size w5 W6) (d1 d2 d3 : Nat) (q6 : Nat → Nat) (p6 : Nat → SP) (A6 : AnsAt W6 (some ⟨d1, 0, none⟩) d1 n A (newP A q6)) (Q6 : RanAt W6 (some ⟨d2, 0, none⟩) d2 m R) (T6 : SlotsAt W6 (some ⟨d3, 0, none⟩) d3 0 nt p6 D) (W : World) (hW : Below W6.heap.size W6 W) =>
      e_outcome code drops rev slots (some ⟨c1, 0, none⟩) (some ⟨d1, 0, none⟩) c1 d1 n n n A (newP A q4) (newP A q6) (some ⟨c2, 0, none⟩) (some ⟨d2, 0, none⟩) c2 d2 m m m R (some ⟨c3, 0, none⟩) (some ⟨d3, 0, none⟩) c3 0 d3 0 nt nt nt p4 p6 D W hn HD.out.1 hm
        ((HA4.out.below HZ5.out).below (h6.trans (hW.mono h6.size))) (A6.below hW) ((HQ4.out.below HZ5.out).below (h6.trans (hW.mono h6.size))) (Q6.below hW) ((HT4.out.below HZ5.out).below (h6.trans (hW.mono h6.size))) (T6.below hW))
    clear hneg hn hm hnt
    go_region_held3 (fun w' => (w'.cell? ⟨w.heap.size, 0, none⟩ = some (.int .i64 code) ∧ w'.cell? ⟨w.heap.size, 1, none⟩ = some (.slice oa n ca) ∧ w'.cell? ⟨w.heap.size, 2, none⟩ = some (.slice orr m cr) ∧ w'.cell? ⟨w.heap.size, 3, none⟩ = some (.int .i64 drops) ∧ w'.cell? ⟨w.heap.size, 4, none⟩ = some (.int .i64 rev) ∧ w'.cell? ⟨w.heap.size, 5, none⟩ = some (.int .i64 slots) ∧ w'.cell? ⟨w.heap.size, 6, none⟩ = some (.slice ot nt ct)) ∧ w'.cell? ⟨bZ, 0, none⟩ = some (.int .i64 code) ∧ w'.cell? ⟨bZ, 1, none⟩ = some (.slice (some ⟨c1, 0, none⟩) n n) ∧ w'.cell? ⟨bZ, 2, none⟩ = some (.slice (some ⟨c2, 0, none⟩) m m) ∧ w'.cell? ⟨bZ, 3, none⟩ = some (.int .i64 drops) ∧ w'.cell? ⟨bZ, 4, none⟩ = some (.int .i64 rev) ∧ w'.cell? ⟨bZ, 5, none⟩ = some (.int .i64 slots) ∧ w'.cell? ⟨bZ, 6, none⟩ = some (.slice (some ⟨c3, 0, none⟩) nt nt)) (go_keep) (first
      | (go_at_call 6; refine (CT.out _ (by first | exact B50 | exact B50.drew)).mono ?_; rintro e w6 ⟨d1, d2, d3, q6, p6, rfl, A6, Q6, T6, b6⟩; have bw : Below w5.heap.size w5 w6 := (by first | exact b6 | exact ((Below.refl _ _).drew).trans b6); obtain ⟨U1, U2⟩ := HB56.out w6 bw; obtain ⟨⟨u0, u1, u2, u3, u4, u5, u6⟩, _⟩ := seven_at U1; obtain ⟨⟨v0, v1, v2, v3, v4, v5, v6⟩, _⟩ := seven_at U2; have bw0 : Below w6.heap.size w6 w6 := Below.refl _ _)
      | (go_at_call 8; refine (CEQ.out w6 bw d1 d2 d3 q6 p6 A6 Q6 T6 _ (by first | exact bw0 | exact bw0.drew)).mono ?_; rintro e w7 ⟨rfl, b7⟩; have bx : Below w6.heap.size w6 w7 := (by first | exact b7 | exact ((Below.refl _ _).drew).trans b7); obtain ⟨G1, G2⟩ := HB56.out w7 (bw.trans (bx.mono bw.size)); obtain ⟨⟨g0, g1, g2, g3, g4, g5, g6⟩, _⟩ := seven_at G1; obtain ⟨⟨k0, k1, k2, k3, k4, k5, k6⟩, _⟩ := seven_at G2))
    all_goals
      have HE := hid_of (HW.out w7 (B50.trans ((bw.trans (bx.mono bw.size)).mono B50.size)))
      clear A6 Q6 T6 b6 b7
      go_wp2
      go_ret
      exact ⟨rfl, HE.out⟩
end Go.Proofs.YtdolejkpnpchaaaDoor
