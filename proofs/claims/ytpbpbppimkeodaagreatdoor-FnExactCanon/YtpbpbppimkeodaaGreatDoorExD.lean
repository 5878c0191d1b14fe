/-
  FnExactCanon: the law's own walk.
-/
import Derived.Test.YtpbpbppimkeodaaGreatDoorME
import Derived.Test.YtpbpbppimkeodaaGreatDoorMG
import Derived.Test.YtpbpbppimkeodaaGreatDoorSz
import Derived.Deep.RegionWith
namespace Go.Proofs.YtpbpbppimkeodaaGreatDoor
open Go.RowKit Go.Maps

theorem NodesAt.blocks {w w' : World} {ao : Option Addr} {b o n : Nat} {p : Nat → NP} {G : Nat → ND} (h : NodesAt w ao b o n p G) (hr : 0 < n → w'.heap[b]? = w.heap[b]?) (hn : ∀ i, i < n → (0 < (G i).nn → w'.heap[(p i).b1]? = w.heap[(p i).b1]?) ∧ (0 < (G i).nk → w'.heap[(p i).b2]? = w.heap[(p i).b2]?)) : NodesAt w' ao b o n p G :=
  ⟨h.at_, fun i hi => (World.cell?_of_block (hr (by omega))).trans (h.c0 i hi), fun i hi => (World.cell?_of_block (hr (by omega))).trans (h.c1 i hi), fun i hi => (World.cell?_of_block (hr (by omega))).trans (h.c2 i hi), fun i hi => (h.node i hi).later (hn i hi).1 (hn i hi).2, h.len⟩

set_option maxRecDepth 100000 in
set_option maxHeartbeats 16000000 in
theorem l_Canon (ao ra : Option Addr) (b o N c rl ro R rc : Nat) (p : Nat → NP) (G : Nat → ND) (D : Nat → Int) (w : World) (h1 : NodesAt w ao b o N p G) (h2 : IntsAt w ra rl ro R D) :
    Calls Tryz.prog 3 #[.agg #[.slice ao N c], .slice ra R rc] w fun e w' => e = .returned (.bool true) ∧ Below w.heap.size w w' := by
  have HB : Hid (∀ w', Below w.heap.size w w' → NodesAt w' ao b o N p G ∧ IntsAt w' ra rl ro R D) := fun w' hb => ⟨h1.below hb, h2.below hb⟩
  clear h1 h2
  by_cases hR0 : 1048576 < R
  · have qR : (1048576 : Int) < (R : Int) := by omega
    go_enter Tryz.func3, Tryz.ntmps3
    go_wp2
    go_ret
    exact ⟨rfl, bel1 _ _⟩
  have qR : ¬ (1048576 : Int) < (R : Int) := by omega
  have hR : R ≤ 1048576 := by omega
  clear hR0
  go_enter Tryz.func3, Tryz.ntmps3
  go_wp2_with fail
  refine (g4 ao b o N c p G 1048576 _ (by omega) (by omega) (by exact (HB.out _ (bel1 _ _)).1)).mono ?_
  rintro e w2 ⟨r, rfl, hr, hb2⟩
  have B2 : Below w.heap.size w w2 := (bel1 w _).trans (hb2.mono (by simp))
  have k2 : w2.cell? ⟨w.heap.size, 0, none⟩ = some (.slice ao N c) := by rw [hb2.cell (p := ⟨w.heap.size, 0, none⟩) (by simp)]; simp
  have z2 : w.heap.size < w2.heap.size := by have := hb2.size; simp at this; omega
  clear hb2
  by_cases h3 : r < 0
  · go_wp2
    go_ret
    exact ⟨rfl, B2⟩
  obtain ⟨hn, hG⟩ := hr.ok (by omega)
  have HG : Hid (∀ i, i < N → (G i).nn ≤ 1048576 ∧ (G i).nk ≤ 1048576) := hG
  clear hr hG
  go_wp2_with fail
  refine (c6 ao b o N c p G _ (by exact (HB.out _ B2).1) hn HG.out).mono ?_
  rintro e w3 ⟨b3, p3, rfl, N3, _, _, hb3⟩
  have B3 : Below w.heap.size w w3 := B2.trans (hb3.mono B2.size)
  have k3 : w3.cell? ⟨w.heap.size, 0, none⟩ = some (.slice ao N c) := (hb3.cell (p := ⟨w.heap.size, 0, none⟩) z2).trans k2
  have HN3 : Hid (NodesAt w3 (some ⟨b3, 0, none⟩) b3 0 N p3 G) := N3
  clear hb3 k2 B2 N3
  go_wp2_with fail
  refine (c35 ra rl ro R rc D _ (by exact (HB.out _ B3).2) hR).mono ?_
  rintro e w4 ⟨rfl, I4, hb4, _, _⟩
  have B4 : Below w.heap.size w w4 := B3.trans (hb4.mono B3.size)
  have k4 : w4.cell? ⟨w.heap.size, 0, none⟩ = some (.slice ao N c) := (hb4.cell (p := ⟨w.heap.size, 0, none⟩) (World.block_lt_of_cell? _ _ k3)).trans k3
  have HN4 : Hid (NodesAt w4 (some ⟨b3, 0, none⟩) b3 0 N p3 G ∧ IntsAt w4 (some ⟨w3.heap.size, 0, none⟩) w3.heap.size 0 R D) := ⟨HN3.out.below hb4, I4⟩
  clear hb4 k3 B3 I4 HN3
  go_wp2_with fail
  refine (both_canon (some ⟨b3, 0, none⟩) (some ⟨w3.heap.size, 0, none⟩) N R R w3.heap.size 0 D w4 hR hn HG.out HN4.out.1 HN4.out.2).mono ?_
  rintro e w5 ⟨n, R2, cc, E, hCI, hn1, hR2, hcb, oa, b5, cap, q5, la, lb5, lc, rfl, N5, I5, hb5⟩
  have HCI : Hid (CanonIs N R G D n R2 cc E) := hCI
  have HCB : Hid (∀ i, i < n → (cc i).nn ≤ 1048576 ∧ (cc i).nk ≤ 1048576) := hcb
  have B5 : Below w.heap.size w w5 := B4.trans (hb5.mono B4.size)
  have k5 : w5.cell? ⟨w.heap.size, 0, none⟩ = some (.slice ao N c) := (hb5.cell (p := ⟨w.heap.size, 0, none⟩) (World.block_lt_of_cell? _ _ k4)).trans k4
  obtain ⟨w6, hw6⟩ : ∃ w6, w6 = w5.alloc (.cells #[.slice oa n cap] 29) := ⟨_, rfl⟩
  have B56 : Below w5.heap.size w5 w6 := by rw [hw6]; exact bel1 _ _
  have z6 : Hid (w6.heap.size = w5.heap.size + 1) := by show _ = _; rw [hw6]; simp
  have k6 : w6.cell? ⟨w.heap.size, 0, none⟩ = some (.slice ao N c) := (B56.cell (p := ⟨w.heap.size, 0, none⟩) (World.block_lt_of_cell? _ _ k5)).trans k5
  have m6 : w6.cell? ⟨w5.heap.size, 0, none⟩ = some (.slice oa n cap) := by rw [hw6]; exact (row1 _ _ _).cell (i := 0) (by omega)
  have B6 : Below w.heap.size w w6 := B5.trans (B56.mono B5.size)
  have z5 : w.heap.size < w6.heap.size := World.block_lt_of_cell? _ _ k6
  have N6 := N5.below B56
  have I6 := I5.below B56
  have HO : Hid (∀ W, Below w6.heap.size w6 W → (W.cell? ⟨w.heap.size, 0, none⟩ = some (.slice ao N c) ∧ W.cell? ⟨w5.heap.size, 0, none⟩ = some (.slice oa n cap)) ∧ (NodesAt W ao b o N p G ∧ IntsAt W ra rl ro R D) ∧ (NodesAt W oa b5 0 n q5 cc ∧ IntsAt W la lb5 0 R2 E) ∧ Below w.heap.size w W) := fun W hW =>
    ⟨⟨(hW.cell (p := ⟨w.heap.size, 0, none⟩) z5).trans k6, (hW.cell (p := ⟨w5.heap.size, 0, none⟩) (by show w5.heap.size < w6.heap.size; have := z6.out; omega)).trans m6⟩, HB.out W (B6.trans (hW.mono B6.size)), ⟨N6.below hW, I6.below hW⟩, B6.trans (hW.mono B6.size)⟩
  clear hb5 k4 B4 hCI hcb HN4 N5 I5 B5 B56 N6 I6 m6 B6
  have k6' := k6
  rw [hw6] at k6'
  go_wp2_with fail
  rw [← hw6]
  clear hw6 k6' k5
  refine (c6 ao b o N c p G w6 (HO.out w6 (Below.refl _ _)).2.1.1 hn HG.out).mono ?_
  rintro e w7 ⟨b7, p7, rfl, N7, O7, F7, hb7⟩
  have hs7 := hb7.size
  have HX7 : Hid (NodesAt w7 (some ⟨b7, 0, none⟩) b7 0 N p7 G ∧ OwnG w7 N b7 p7 G ∧ FreshG w6.heap.size N 0 b7 0 p7 G) := ⟨N7, O7, F7⟩
  obtain ⟨w8, hw8⟩ : ∃ w8, w8 = w7.alloc (.cells #[.slice (some ⟨b7, 0, none⟩) N N] 29) := ⟨_, rfl⟩
  have B78 : Hid (Below w7.heap.size w7 w8) := by rw [hw8]; exact bel1 _ _
  have z8 : Hid (w8.heap.size = w7.heap.size + 1) := by show _ = _; rw [hw8]; simp
  have m8 : w8.cell? ⟨w7.heap.size, 0, none⟩ = some (.slice (some ⟨b7, 0, none⟩) N N) := by rw [hw8]; exact (row1 _ _ _).cell (i := 0) (by omega)
  have B8 : Below w6.heap.size w6 w8 := hb7.trans (B78.out.mono hb7.size)
  clear hb7 N7 O7 F7 k6
  go_wp2_with fail
  rw [← hw8]
  clear hw8
  refine (c35 ra rl ro R rc D w8 (HO.out w8 B8).2.1.2 hR).mono ?_
  rintro e w9 ⟨rfl, I9, hb9, hz9, V9⟩
  have B9 : Below w6.heap.size w6 w9 := B8.trans (hb9.mono B8.size)
  have m9 : w9.cell? ⟨w7.heap.size, 0, none⟩ = some (.slice (some ⟨b7, 0, none⟩) N N) := (hb9.cell (p := ⟨w7.heap.size, 0, none⟩) (by show w7.heap.size < w8.heap.size; have := z8.out; omega)).trans m8
  have B79 : Hid (Below w7.heap.size w7 w9) := B78.out.trans (hb9.mono B78.out.size)
  have HI9 : Hid (IntsAt w9 (some ⟨w8.heap.size, 0, none⟩) w8.heap.size 0 R D ∧ Wr w9 w8.heap.size) := ⟨I9, V9⟩
  clear hb9 m8 B8 B78 I9 V9
  go_wp2_with fail
  refine (HCI.out (some ⟨b7, 0, none⟩) (some ⟨w8.heap.size, 0, none⟩) b7 0 N R w8.heap.size 0 p7 w9 (HX7.out.1.below B79.out) HI9.out.1).mono ?_
  rintro e w10 ⟨ga, gb, gcap, gp, ka, kb, kc, rfl, N10, I10, O10, L10, F10, hb10⟩
  have hs10 := hb10.size
  obtain ⟨w11, hw11⟩ : ∃ w11, w11 = w10.alloc (.cells #[.slice ga n gcap] 29) := ⟨_, rfl⟩
  have B1011 : Below w10.heap.size w10 w11 := by rw [hw11]; exact bel1 _ _
  have z11 : Hid (w11.heap.size = w10.heap.size + 1) := by show _ = _; rw [hw11]; simp
  have m11 : w11.cell? ⟨w10.heap.size, 0, none⟩ = some (.slice ga n gcap) := by rw [hw11]; exact (row1 _ _ _).cell (i := 0) (by omega)
  have B911 : Below w9.heap.size w9 w11 := hb10.trans (B1011.mono hb10.size)
  have x11 : w11.cell? ⟨w7.heap.size, 0, none⟩ = some (.slice (some ⟨b7, 0, none⟩) N N) := (B911.cell (p := ⟨w7.heap.size, 0, none⟩) (by show w7.heap.size < w9.heap.size; have := z8.out; omega)).trans m9
  have HFG : Hid (FreshG w9.heap.size n R2 gb kb gp cc ∧ OwnG w10 n gb gp cc ∧ OwnL w10 n R2 gb kb gp cc) := ⟨F10, O10, L10⟩
  have B711 : Below w7.heap.size w7 w11 := B79.out.trans (B911.mono B79.out.size)
  have HX : Hid (∀ W, Below w11.heap.size w11 W → (W.cell? ⟨w7.heap.size, 0, none⟩ = some (.slice (some ⟨b7, 0, none⟩) N N) ∧ W.cell? ⟨w10.heap.size, 0, none⟩ = some (.slice ga n gcap)) ∧ (NodesAt W (some ⟨b7, 0, none⟩) b7 0 N p7 G ∧ OwnG W N b7 p7 G ∧ IntsAt W (some ⟨w8.heap.size, 0, none⟩) w8.heap.size 0 R D ∧ Wr W w8.heap.size) ∧ (NodesAt W ga gb 0 n gp cc ∧ IntsAt W ka kb 0 R2 E ∧ OwnG W n gb gp cc ∧ OwnL W n R2 gb kb gp cc) ∧ Below w6.heap.size w6 W) := fun W hW => by
    have h7 : Below w7.heap.size w7 W := B711.trans (hW.mono B711.size)
    have h9 : Below w9.heap.size w9 W := B911.trans (hW.mono B911.size)
    have h10 : Below w10.heap.size w10 W := B1011.trans (hW.mono B1011.size)
    exact ⟨⟨(hW.cell (p := ⟨w7.heap.size, 0, none⟩) (by show w7.heap.size < w11.heap.size; have := z8.out; have := z11.out; omega)).trans x11, (hW.cell (p := ⟨w10.heap.size, 0, none⟩) (by show w10.heap.size < w11.heap.size; have := z11.out; omega)).trans m11⟩, ⟨HX7.out.1.below h7, HX7.out.2.1.below h7, HI9.out.1.below h9, HI9.out.2.below h9⟩, ⟨N10.below h10, I10.below h10, O10.below h10, L10.below h10⟩, B9.trans (h9.mono B9.size)⟩
  clear hb10 N10 I10 O10 L10 F10 B1011 m11 B911 x11 B711 m9 B79 HI9 B9
  obtain ⟨⟨y1, y2⟩, _, ⟨N11, I11, _, _⟩, B611⟩ := HX.out w11 (Below.refl _ _)
  obtain ⟨⟨y3, y4⟩, _, ⟨NW, IW⟩, _⟩ := HO.out w11 B611
  have y2' := y2
  have y4' := y4
  rw [hw11] at y2' y4'
  have HE1 : Hid ((NodesAt w11 ga gb 0 n gp cc ∧ NodesAt w11 oa b5 0 n q5 cc) ∧ IntsAt w11 ka kb 0 R2 E ∧ IntsAt w11 la lb5 0 R2 E) := ⟨⟨N11, NW⟩, I11, IW⟩
  clear N11 I11 NW IW B611 y1 y3
  go_wp2_with fail
  rw [← hw11]
  clear hw11 y2' y4' y2 y4
  refine (c8 ga oa gb 0 gcap b5 0 cap n gp q5 cc w11 HE1.out.1.1 HE1.out.1.2).mono ?_
  rintro e w12 ⟨rfl, hb12⟩
  have HE2 : Hid (IntsAt w12 ka kb 0 R2 E ∧ IntsAt w12 la lb5 0 R2 E) := ⟨HE1.out.2.1.below hb12, HE1.out.2.2.below hb12⟩
  clear HE1
  go_wp2_with fail
  refine (c38 ka la kb 0 kc lb5 0 lc R2 E w12 HE2.out.1 HE2.out.2).mono ?_
  rintro e w13 ⟨rfl, kk, hkk⟩
  have B13 : Hid (Below w11.heap.size w11 w13) := by
    have : Below w12.heap.size w12 w13 := by rw [hkk]; exact below_drewN' _ _
    exact hb12.trans (this.mono hb12.size)
  clear hkk hb12 HE2
  -- x0 is as it was
  go_wp2_with fail
  go_cut [57] (fun s57 wc => s57 = .bool false ∧ Hid (Below w11.heap.size w11 wc))
  case first =>
    obtain ⟨⟨y1, _⟩, ⟨NX, _, _, _⟩, _, B613⟩ := HX.out w13 B13.out
    obtain ⟨⟨y3, _⟩, ⟨NA, _⟩, _, _⟩ := HO.out w13 B613
    have HNA : Hid (∀ W, Below w13.heap.size w13 W → NodesAt W ao b o N p G ∧ NodesAt W (some ⟨b7, 0, none⟩) b7 0 N p7 G) := fun W hW => ⟨NA.below hW, NX.below hW⟩
    have HTG : Hid (∀ W, Below w13.heap.size w13 W → Calls Tryz.prog 9 #[.agg #[.slice ao N c]] W fun e w' => ∃ bq pq, e = .returned (.agg #[.slice (some ⟨bq, 0, none⟩) N N]) ∧ w'.cell? ⟨w7.heap.size, 0, none⟩ = some (.slice (some ⟨b7, 0, none⟩) N N) ∧ w'.cell? ⟨w.heap.size, 0, none⟩ = some (.slice ao N c) ∧ Hid (NodesAt w' (some ⟨bq, 0, none⟩) bq 0 N pq G ∧ Below w13.heap.size w13 w')) := fun W hW => by
      refine (c6 ao b o N c p G W (HNA.out W hW).1 hn HG.out).mono ?_
      rintro e w' ⟨bq, pq, rfl, h1, _, _, h2⟩
      have h3 : Below w13.heap.size w13 w' := hW.trans (h2.mono hW.size)
      exact ⟨bq, pq, rfl, (h3.cell (p := ⟨w7.heap.size, 0, none⟩) (World.block_lt_of_cell? _ _ y1)).trans y1, (h3.cell (p := ⟨w.heap.size, 0, none⟩) (World.block_lt_of_cell? _ _ y3)).trans y3, h1, h3⟩
    clear NX NA B613
    go_region_held3 (fun w' => w'.cell? ⟨w7.heap.size, 0, none⟩ = some (.slice (some ⟨b7, 0, none⟩) N N) ∧ w'.cell? ⟨w.heap.size, 0, none⟩ = some (.slice ao N c)) (go_keep)
      (first
        | (go_at_call 9; refine (HTG.out _ (by first | exact Below.refl _ _ | exact (Below.refl _ _).drew | exact below_drewN (Below.refl _ _) _)).mono ?_; rintro e wq ⟨bq, pq, rfl, u1, u2, HQ⟩)
        | (go_at_call 12; refine (c8 (some ⟨b7, 0, none⟩) (some ⟨bq, 0, none⟩) b7 0 N bq 0 N N p7 pq G _ (by first | exact (HNA.out wq HQ.out.2).2 | exact (HNA.out _ HQ.out.2.drew).2) (by first | exact HQ.out.1 | exact HQ.out.1.below ((Below.refl _ _).drew))).mono ?_; rintro e wv ⟨rfl, hbv⟩; have u3 := (hbv.cell (p := ⟨w7.heap.size, 0, none⟩) (World.block_lt_of_cell? _ _ u1)).trans u1; have u4 := (hbv.cell (p := ⟨w.heap.size, 0, none⟩) (World.block_lt_of_cell? _ _ u2)).trans u2))
    all_goals
      have BV : Hid (Below w11.heap.size w11 wv) := B13.out.trans ((HQ.out.2.trans (by first | exact hbv.mono HQ.out.2.size | exact ((Below.refl _ _).drew.trans hbv).mono HQ.out.2.size)).mono B13.out.size)
      clear hbv HQ
      go_wp2
      go_meet
      case rel => exact ⟨rfl, by first | exact BV | exact BV.out.drew | exact below_drewN BV.out _⟩
  obtain ⟨rfl, HBC⟩ := hcut
  -- x1 is as it was
  clear B13
  have HIA : Hid (IntsAt wc ra rl ro R D ∧ IntsAt wc (some ⟨w8.heap.size, 0, none⟩) w8.heap.size 0 R D) := ⟨(HO.out wc (HX.out wc HBC.out).2.2.2).2.1.2, (HX.out wc HBC.out).2.1.2.2.1⟩
  go_wp2_with fail
  refine (c35 ra rl ro R rc D _ (by exact HIA.out.1) hR).mono ?_
  rintro e w15 ⟨rfl, I15, hb15, _, _⟩
  have HIB : Hid (IntsAt w15 (some ⟨w8.heap.size, 0, none⟩) w8.heap.size 0 R D ∧ IntsAt w15 (some ⟨wc.heap.size, 0, none⟩) wc.heap.size 0 R D) := ⟨HIA.out.2.below hb15, I15⟩
  have B15 : Hid (Below w11.heap.size w11 w15) := HBC.out.trans (hb15.mono HBC.out.size)
  clear I15 hb15 HIA HBC
  go_wp2_with fail
  refine (c38 (some ⟨w8.heap.size, 0, none⟩) (some ⟨wc.heap.size, 0, none⟩) w8.heap.size 0 R wc.heap.size 0 R R D w15 HIB.out.1 HIB.out.2).mono ?_
  rintro e w16 ⟨rfl, kk, hkk⟩
  have B16 : Hid (Below w11.heap.size w11 w16) := by
    have : Below w15.heap.size w15 w16 := by rw [hkk]; exact below_drewN' _ _
    exact B15.out.trans (this.mono B15.out.size)
  clear hkk HIB B15
  -- marks on the arguments
  obtain ⟨⟨y1, _⟩, ⟨NX, OX, IX, VX⟩, _, _⟩ := HX.out w16 B16.out
  have HM1 : Hid (NodesAt w16 (some ⟨b7, 0, none⟩) b7 0 N p7 G ∧ OwnG w16 N b7 p7 G ∧ IntsAt w16 (some ⟨w8.heap.size, 0, none⟩) w8.heap.size 0 R D ∧ Wr w16 w8.heap.size) := ⟨NX, OX, IX, VX⟩
  clear NX OX IX VX
  go_wp2_with fail
  refine (t_markGraph _ (some ⟨b7, 0, none⟩) b7 0 N N p7 G 1 w16 rfl HM1.out.1 HM1.out.2.1 (by omega) (by omega) hn HG.out).mono ?_
  rintro e w17 ⟨rfl, _, _, F17⟩
  have K17 : Hid (∀ j, j < w16.heap.size → (j < w6.heap.size ∨ w7.heap.size ≤ j) → w17.heap[j]? = w16.heap[j]?) := fun j hj hh => by
    obtain ⟨_, o7, f7⟩ := HX7.out
    refine F17.block j hj (fun z e => ?_) (fun i hi => ⟨fun z e => ?_, fun z e => ?_⟩)
    · have h1 := f7.row; have h2 := (o7.row z).lt; omega
    · have h1 := (f7.node i hi).1 z; have h2 := ((o7.node i hi).1 z).1.lt; omega
    · have h1 := (f7.node i hi).2 z; have h2 := ((o7.node i hi).2 z).1.lt; omega
  have HM2 : Hid (IntsAt w17 (some ⟨w8.heap.size, 0, none⟩) w8.heap.size 0 R D ∧ Wr w17 w8.heap.size) := by
    have hk := K17.out w8.heap.size HM1.out.2.2.2.lt (Or.inr (by have := z8.out; omega))
    exact ⟨HM1.out.2.2.1.later (fun _ => hk), HM1.out.2.2.2.of hk⟩
  have H17 : Hid (w17.os = w16.os ∧ w17.tape = w16.tape ∧ w17.output = w16.output ∧ w16.heap.size ≤ w17.heap.size) := ⟨F17.os, F17.tape, F17.output, F17.size⟩
  obtain ⟨y, hy⟩ : ∃ y : Nat, y = cntN 1 G N := ⟨_, rfl⟩
  have hy2 : y ≤ 2199025352705 := by have := (cntN_le 1 G N HG.out N (Nat.le_refl _)).2; omega
  rw [← hy]
  clear F17 hy HM1 y1
  go_wp2_with fail
  refine (t_markIntS _ (some ⟨w8.heap.size, 0, none⟩) w8.heap.size 0 R R D y w17 rfl HM2.out.1 (fun _ => HM2.out.2) (by omega) hR).mono ?_
  rintro e w18 ⟨rfl, _, _, F18⟩
  have K18 : Hid (∀ j, j < w16.heap.size → (j < w6.heap.size ∨ (w7.heap.size ≤ j ∧ j ≠ w8.heap.size)) → w18.heap[j]? = w16.heap[j]?) := fun j hj hh => by
    have h1 := H17.out.2.2.2
    have h2 := z8.out
    exact (F18.block j (by omega) (fun _ => by omega)).trans (K17.out j hj (by omega))
  have H18 : Hid (w18.os = w16.os ∧ w18.tape = w16.tape ∧ w18.output = w16.output ∧ w16.heap.size ≤ w18.heap.size) := ⟨F18.os.trans H17.out.1, F18.tape.trans H17.out.2.1, F18.output.trans H17.out.2.2.1, Nat.le_trans H17.out.2.2.2 F18.size⟩
  have HY : Hid (w18.cell? ⟨w10.heap.size, 0, none⟩ = some (.slice ga n gcap) ∧ (NodesAt w18 ga gb 0 n gp cc ∧ IntsAt w18 ka kb 0 R2 E ∧ OwnG w18 n gb gp cc ∧ OwnL w18 n R2 gb kb gp cc) ∧ Below w6.heap.size w6 w18) := by
    obtain ⟨⟨_, y2⟩, _, ⟨NG, IG, OG, LG⟩, B6⟩ := HX.out w16 B16.out
    obtain ⟨f10, o10, l10⟩ := HFG.out
    have h8 := z8.out
    have k : ∀ j, j < w16.heap.size → w9.heap.size ≤ j → w18.heap[j]? = w16.heap[j]? := fun j hj hh => K18.out j hj (Or.inr (by omega))
    have kn : ∀ i, i < n → (0 < (cc i).nn → w18.heap[(gp i).b1]? = w16.heap[(gp i).b1]?) ∧ (0 < (cc i).nk → w18.heap[(gp i).b2]? = w16.heap[(gp i).b2]?) := fun i hi => ⟨fun z => k _ ((OG.node i hi).1 z).1.lt ((f10.node i hi).1 z), fun z => k _ ((OG.node i hi).2 z).1.lt ((f10.node i hi).2 z)⟩
    refine ⟨(World.cell?_of_block (k _ (World.block_lt_of_cell? _ _ y2) (by show w9.heap.size ≤ w10.heap.size; omega))).trans y2, ⟨NG.blocks (fun z => k _ (OG.row z).lt f10.row) kn, IG.later (fun z => k _ (LG.list z).lt (f10.list z)), OG.of (fun z => k _ (OG.row z).lt f10.row) kn, LG.of (fun z => k _ (LG.list z).lt (f10.list z))⟩, ?_⟩
    exact ⟨H18.out.1.trans B6.os, H18.out.2.1.trans B6.tape, H18.out.2.2.1.trans B6.output, Nat.le_trans B6.size H18.out.2.2.2, fun j hj => (K18.out j (Nat.lt_of_lt_of_le hj B6.size) (Or.inl hj)).trans (B6.block j hj)⟩
  obtain ⟨u, hu⟩ : ∃ u : Nat, u = y + R := ⟨_, rfl⟩
  rw [← hu]
  have hu0 : ¬ (u : Int) < 0 := by omega
  clear F18 hu K17 HM2 H17 K18 H18 B16 HX
  -- the answer is as it was
  obtain ⟨y2, ⟨NG, IG, _, _⟩, B18⟩ := HY.out
  obtain ⟨⟨_, y4⟩, _, ⟨NW, IW⟩, _⟩ := HO.out w18 B18
  have HE3 : Hid ((NodesAt w18 ga gb 0 n gp cc ∧ NodesAt w18 oa b5 0 n q5 cc) ∧ IntsAt w18 ka kb 0 R2 E ∧ IntsAt w18 la lb5 0 R2 E) := ⟨⟨NG, NW⟩, IG, IW⟩
  clear NG IG NW IW B18
  go_wp2_with fail
  refine (c8 ga oa gb 0 gcap b5 0 cap n gp q5 cc w18 HE3.out.1.1 HE3.out.1.2).mono ?_
  rintro e w19 ⟨rfl, hb19⟩
  have HE4 : Hid (IntsAt w19 ka kb 0 R2 E ∧ IntsAt w19 la lb5 0 R2 E) := ⟨HE3.out.2.1.below hb19, HE3.out.2.2.below hb19⟩
  clear HE3 y4
  go_wp2_with fail
  refine (c38 ka la kb 0 kc lb5 0 lc R2 E w19 HE4.out.1 HE4.out.2).mono ?_
  rintro e w20 ⟨rfl, kk, hkk⟩
  have B20 : Below w18.heap.size w18 w20 := by
    have : Below w19.heap.size w19 w20 := by rw [hkk]; exact below_drewN' _ _
    exact hb19.trans (this.mono hb19.size)
  have y20 : w20.cell? ⟨w10.heap.size, 0, none⟩ = some (.slice ga n gcap) := (B20.cell (p := ⟨w10.heap.size, 0, none⟩) (World.block_lt_of_cell? _ _ y2)).trans y2
  have HZ : Hid ((NodesAt w20 ga gb 0 n gp cc ∧ IntsAt w20 ka kb 0 R2 E ∧ OwnG w20 n gb gp cc ∧ OwnL w20 n R2 gb kb gp cc) ∧ Below w6.heap.size w6 w20) := by
    obtain ⟨_, ⟨NG, IG, OG, LG⟩, B6⟩ := HY.out
    exact ⟨⟨NG.below B20, IG.below B20, OG.below B20, LG.below B20⟩, B6.trans (B20.mono B6.size)⟩
  clear hkk hb19 HE4 HY B20 y2
  -- marks on the answer
  go_wp2_with fail
  refine (t_markGraph _ ga gb 0 n gcap gp cc 1 w20 rfl HZ.out.1.1 HZ.out.1.2.2.1 (by omega) (by omega) hn1 HCB.out).mono ?_
  rintro e w21 ⟨rfl, N21, O21, F21⟩
  have HG21 : Hid (NodesAt w21 ga gb 0 n gp (MGr 1 cc) ∧ OwnG w21 n gb gp cc ∧ Fro w20 w21 n gb gp cc) := ⟨N21, O21, F21⟩
  have HI21 : Hid (IntsAt w21 ka kb 0 R2 E ∧ (0 < R2 → Wr w21 kb)) := by
    obtain ⟨⟨_, IG, OG, LG⟩, _⟩ := HZ.out
    have hk : 0 < R2 → w21.heap[kb]? = w20.heap[kb]? := fun z => F21.block kb (LG.list z).lt (LG.row z) (fun i hi => ⟨fun y e => (LG.node z i hi).1 y e.symm, fun y e => (LG.node z i hi).2 y e.symm⟩)
    exact ⟨IG.later hk, fun z => (LG.list z).of (hk z)⟩
  have y21 : w21.cell? ⟨w10.heap.size, 0, none⟩ = some (.slice ga n gcap) := by
    obtain ⟨f10, o10, l10⟩ := HFG.out
    refine (World.cell?_of_block (F21.block w10.heap.size (World.block_lt_of_cell? _ _ y20) (fun z e => ?_) (fun i hi => ⟨fun z e => ?_, fun z e => ?_⟩))).trans y20
    · have := (o10.row z).lt; omega
    · have := ((o10.node i hi).1 z).1.lt; omega
    · have := ((o10.node i hi).2 z).1.lt; omega
  have B21 : Hid (Below w6.heap.size w6 w21) := by
    obtain ⟨f10, o10, l10⟩ := HFG.out
    have B6 := HZ.out.2
    have h8 := z8.out
    refine ⟨F21.os.trans B6.os, F21.tape.trans B6.tape, F21.output.trans B6.output, Nat.le_trans B6.size F21.size, fun j hj => (F21.block j (Nat.lt_of_lt_of_le hj B6.size) (fun z e => ?_) (fun i hi => ⟨fun z e => ?_, fun z e => ?_⟩)).trans (B6.block j hj)⟩
    · have := f10.row; omega
    · have := (f10.node i hi).1 z; omega
    · have := (f10.node i hi).2 z; omega
  obtain ⟨m, hm⟩ : ∃ m : Nat, m = cntN 1 cc n := ⟨_, rfl⟩
  have HMM : Hid (cntN 1 cc n = m) := hm.symm
  have hm2 : m ≤ 2199025352705 := by have := (cntN_le 1 cc n HCB.out n (Nat.le_refl _)).2; omega
  rw [← hm]
  clear N21 O21 F21 hm y20 HZ
  go_wp2_with fail
  refine (t_markIntS _ ka kb 0 R2 kc E m w21 rfl HI21.out.1 HI21.out.2 (by omega) hR2).mono ?_
  rintro e w22 ⟨rfl, I22, _, F22⟩
  have HI22 : Hid (IntsAt w22 ka kb 0 R2 (fun j => ((m + j : Nat) : Int))) := I22
  have HN22 : Hid (NodesAt w22 ga gb 0 n gp (MGr 1 cc)) := by
    obtain ⟨f10, o10, l10⟩ := HFG.out
    obtain ⟨N21, O21, _⟩ := HG21.out
    exact N21.blocks (fun z => F22.block gb (O21.row z).lt (fun y e => l10.row y z e.symm)) (fun i hi => ⟨fun z => F22.block _ ((O21.node i hi).1 z).1.lt (fun y => (l10.node y i hi).1 z), fun z => F22.block _ ((O21.node i hi).2 z).1.lt (fun y => (l10.node y i hi).2 z)⟩)
  have y22 : w22.cell? ⟨w10.heap.size, 0, none⟩ = some (.slice ga n gcap) := by
    obtain ⟨f10, o10, l10⟩ := HFG.out
    exact (World.cell?_of_block (F22.block w10.heap.size (World.block_lt_of_cell? _ _ y21) (fun z e => by have := (l10.list z).lt; omega))).trans y21
  have B22 : Hid (Below w6.heap.size w6 w22) := by
    obtain ⟨f10, o10, l10⟩ := HFG.out
    have B6 := B21.out
    have h8 := z8.out
    exact ⟨F22.os.trans B6.os, F22.tape.trans B6.tape, F22.output.trans B6.output, Nat.le_trans B6.size F22.size, fun j hj => (F22.block j (Nat.lt_of_lt_of_le hj B6.size) (fun z e => by have := f10.list z; omega)).trans (B6.block j hj)⟩
  obtain ⟨v, hv⟩ : ∃ v : Nat, v = m + R2 := ⟨_, rfl⟩
  have HV : Hid (m + R2 = v) := hv.symm
  rw [← hv]
  have hv0 : ¬ (v : Int) < 0 := by omega
  have hm0 : ¬ (m : Int) < 0 := by omega
  clear I22 F22 HI21 HG21 B21 y21 hv
  -- the marks are held
  go_wp2_with fail
  refine (t_heldGraph _ ga gb 0 n gcap gp cc 1 w22 rfl HN22.out (by omega) (by omega) hn1 HCB.out).mono ?_
  rintro e w23 ⟨rfl, hb23⟩
  rw [HMM.out]
  have HI23 : Hid (IntsAt w23 ka kb 0 R2 (fun j => ((m + j : Nat) : Int))) := HI22.out.below hb23
  have B23 : Hid (Below w6.heap.size w6 w23) := B22.out.trans (hb23.mono B22.out.size)
  clear hb23 HI22 HN22 B22 y22
  go_wp2_with fail
  refine (t_heldIntS _ ka kb 0 R2 kc m w23 rfl HI23.out (by omega) hR2).mono ?_
  rintro e w24 ⟨rfl, hb24⟩
  rw [HV.out]
  have B24 : Hid (Below w6.heap.size w6 w24) := B23.out.trans (hb24.mono B23.out.size)
  clear hb24 HI23 B23
  -- once more
  obtain ⟨⟨y3, _⟩, ⟨NA, _⟩, _, _⟩ := HO.out w24 B24.out
  go_wp2_with fail
  refine (c6 ao b o N c p G _ (by exact NA) hn HG.out).mono ?_
  rintro e w25 ⟨b25, p25, rfl, N25, _, _, hb25⟩
  have HN25 : Hid (NodesAt w25 (some ⟨b25, 0, none⟩) b25 0 N p25 G) := N25
  have B25 : Hid (Below w6.heap.size w6 w25) := B24.out.trans (hb25.mono B24.out.size)
  clear hb25 N25 NA y3 B24
  go_wp2_with fail
  refine (c35 ra rl ro R rc D _ (by exact (HO.out w25 B25.out).2.1.2) hR).mono ?_
  rintro e w26 ⟨rfl, I26, hb26, _, _⟩
  have HN26 : Hid (NodesAt w26 (some ⟨b25, 0, none⟩) b25 0 N p25 G ∧ IntsAt w26 (some ⟨w25.heap.size, 0, none⟩) w25.heap.size 0 R D) := ⟨HN25.out.below hb26, I26⟩
  have B26 : Hid (Below w6.heap.size w6 w26) := B25.out.trans (hb26.mono B25.out.size)
  clear hb26 I26 HN25 B25
  go_wp2_with fail
  refine (HCI.out (some ⟨b25, 0, none⟩) (some ⟨w25.heap.size, 0, none⟩) b25 0 N R w25.heap.size 0 p25 w26 HN26.out.1 HN26.out.2).mono ?_
  rintro e w27 ⟨ja, jb, jcap, jp, ia, ib, ic, rfl, N27, I27, _, _, _, hb27⟩
  have B27 : Below w6.heap.size w6 w27 := B26.out.trans (hb27.mono B26.out.size)
  obtain ⟨w28, hw28⟩ : ∃ w28, w28 = w27.alloc (.cells #[.slice ja n jcap] 29) := ⟨_, rfl⟩
  have B28 : Below w27.heap.size w27 w28 := by rw [hw28]; exact bel1 _ _
  have B628 : Below w6.heap.size w6 w28 := B27.trans (B28.mono B27.size)
  obtain ⟨⟨_, y4⟩, _, ⟨NW, IW⟩, BW⟩ := HO.out w28 B628
  have HE5 : Hid ((NodesAt w28 ja jb 0 n jp cc ∧ NodesAt w28 oa b5 0 n q5 cc) ∧ (IntsAt w28 ia ib 0 R2 E ∧ IntsAt w28 la lb5 0 R2 E) ∧ Below w.heap.size w w28) := ⟨⟨N27.below B28, NW⟩, ⟨I27.below B28, IW⟩, BW⟩
  have y5 : w28.cell? ⟨w27.heap.size, 0, none⟩ = some (.slice ja n jcap) := by rw [hw28]; exact (row1 _ _ _).cell (i := 0) (by omega)
  rw [hw28] at y4 y5
  clear N27 I27 NW IW BW B27 B28 B628 hb27 HN26 B26
  go_wp2_with fail
  rw [← hw28]
  clear hw28 y4 y5
  refine (c8 ja oa jb 0 jcap b5 0 cap n jp q5 cc w28 HE5.out.1.1 HE5.out.1.2).mono ?_
  rintro e w29 ⟨rfl, hb29⟩
  have HE6 : Hid ((IntsAt w29 ia ib 0 R2 E ∧ IntsAt w29 la lb5 0 R2 E) ∧ Below w.heap.size w w29) := ⟨⟨HE5.out.2.1.1.below hb29, HE5.out.2.1.2.below hb29⟩, HE5.out.2.2.trans (hb29.mono HE5.out.2.2.size)⟩
  clear HE5 hb29
  go_wp2_with fail
  refine (c38 ia la ib 0 ic lb5 0 lc R2 E w29 HE6.out.1.1 HE6.out.1.2).mono ?_
  rintro e w30 ⟨rfl, kk, hkk⟩
  have B30 : Below w.heap.size w w30 := by
    have : Below w29.heap.size w29 w30 := by rw [hkk]; exact below_drewN' _ _
    exact HE6.out.2.trans (this.mono HE6.out.2.size)
  clear hkk HE6
  go_wp2
  go_ret
  exact ⟨rfl, B30⟩

end Go.Proofs.YtpbpbppimkeodaaGreatDoor
