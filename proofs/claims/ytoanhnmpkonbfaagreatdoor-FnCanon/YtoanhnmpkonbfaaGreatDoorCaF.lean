/-
  FnCanon: the law walked.
-/
import Derived.Test.YtoanhnmpkonbfaaGreatDoorMK
import Derived.Test.YtoanhnmpkonbfaaGreatDoorM1
import Derived.Deep.RegionHeld3
import Derived.BigQuiet
namespace Go.Proofs.YtoanhnmpkonbfaaGreatDoor
open Go.RowKit Go.Maps

set_option maxRecDepth 100000 in
set_option maxHeartbeats 32000000 in
theorem l_FnCanon (ca : Option Addr) (cb co L cc : Nat) (C : Nat → Nat) (w : World) (h : BytesAt w ca cb co L C) :
    Calls Tryz.prog 4 #[.slice ca L cc] w fun e w' => e = .returned (.bool true) ∧ Below w.heap.size w w' := by
  by_cases hL : L ≤ 1048576
  case neg =>
    have qL : (1048576 : Int) < (L : Int) := by omega
    have hl := h.len
    clear h hL
    go_enter Tryz.func4, Tryz.ntmps4
    go_wp2
    go_ret
    exact ⟨rfl, Below.refl _ _⟩
  have qL : ¬ (1048576 : Int) < (L : Int) := by omega
  obtain ⟨N, G, T⟩ := draw_canon C L hL
  have HW : Hid (BytesAt w ca cb co L C) := h
  have HT : Hid (CanOk C L N G) := T
  have hN100 := T.small
  have HNK : Hid (∀ i, i < N → (gd G i).nk ≤ 1048576) := fun i hi => Nat.le_trans (T.few i hi).2 (by omega)
  have HNN : Hid (∀ i, i < N → (gd G i).nn ≤ 1048576) := fun i hi => Nat.le_trans (T.few i hi).1 (by omega)
  clear h T
  go_enter Tryz.func4, Tryz.ntmps4
  go_wp2_with fail
  refine (HT.out.calls ca cb co cc w HW.out).mono ?_
  rintro e w1 ⟨oa, cap, gb, q, rv, rfl, hN1, hb1⟩
  obtain ⟨W2, hW2⟩ : ∃ W2, W2 = w1.alloc (.cells #[.slice oa N cap] 25) := ⟨_, rfl⟩
  have B2 : Below w1.heap.size w1 W2 := by rw [hW2]; exact bel1 _ _
  have z2 : w1.heap.size < W2.heap.size := by rw [hW2]; simp
  have c2 : W2.cell? ⟨w1.heap.size, 0, none⟩ = some (.slice oa N cap) := by rw [hW2]; exact (row1 _ _ _).cell (i := 0) (by omega)
  have BW2 : Below w.heap.size w W2 := hb1.trans (B2.mono hb1.size)
  have hN2 := hN1.below B2
  go_wp2_with fail
  rw [← hW2]
  clear hW2 hN1
  refine (HT.out.calls ca cb co cc W2 (HW.out.below BW2)).mono ?_
  rintro e w3 ⟨oa', cap', gb', q', rv', rfl, hN3, hb3⟩
  obtain ⟨W4, hW4⟩ : ∃ W4, W4 = w3.alloc (.cells #[.slice oa' N cap'] 25) := ⟨_, rfl⟩
  have B4 : Below w3.heap.size w3 W4 := by rw [hW4]; exact bel1 _ _
  have z4 : w3.heap.size < W4.heap.size := by rw [hW4]; simp
  have c4 : W4.cell? ⟨w3.heap.size, 0, none⟩ = some (.slice oa' N cap') := by rw [hW4]; exact (row1 _ _ _).cell (i := 0) (by omega)
  have BW4' : Below W2.heap.size W2 W4 := hb3.trans (B4.mono hb3.size)
  have BW4 : Below w.heap.size w W4 := BW2.trans (BW4'.mono BW2.size)
  have hM4 := hN3.below B4
  have hN4 := hN2.below BW4'
  have c24 : W4.cell? ⟨w1.heap.size, 0, none⟩ = some (.slice oa N cap) := (BW4'.cell (p := ⟨w1.heap.size, 0, none⟩) z2).trans c2
  have z24 : w1.heap.size < W4.heap.size := World.block_lt_of_cell? _ _ c24
  go_wp2_with fail
  rw [← hW4]
  clear hW4 hN3 hN2 c2 hb1 hb3 B2 B4 BW4'
  refine (g10 oa' gb' 0 N cap' q' (gd G) W4 hM4).mono ?_
  rintro e W5 ⟨rfl, hb5⟩
  have BW5 : Below w.heap.size w W5 := BW4.trans (hb5.mono BW4.size)
  have HG1 : Hid (∀ w', Below W5.heap.size W5 w' → NodesAt w' oa gb 0 N q (gd G)) := fun w' hb => (hN4.below hb5).below hb
  have HG2 : Hid (∀ w', Below W5.heap.size W5 w' → NodesAt w' oa' gb' 0 N q' (gd G)) := fun w' hb => (hM4.below hb5).below hb
  have c1 : W5.cell? ⟨w1.heap.size, 0, none⟩ = some (.slice oa N cap) := (hb5.cell (p := ⟨w1.heap.size, 0, none⟩) z24).trans c24
  have c3 : W5.cell? ⟨w3.heap.size, 0, none⟩ = some (.slice oa' N cap') := (hb5.cell (p := ⟨w3.heap.size, 0, none⟩) z4).trans c4
  have y1 : w1.heap.size < W5.heap.size := World.block_lt_of_cell? _ _ c1
  have y3 : w3.heap.size < W5.heap.size := World.block_lt_of_cell? _ _ c3
  clear hb5 hN4 hM4 c24 c4 BW4 BW2 z2 z4 z24
  cases hv : vgr N (gd G)
  case false =>
    clear hv
    go_wp2
    go_ret
    exact ⟨rfl, BW5⟩
  have HV : Hid (vgr N (gd G) = true) := hv
  clear hv
  have q100 : ¬ (100 : Int) < (N : Int) := by omega
  obtain ⟨i1, hj0, hj1, hj2, hj3⟩ := info_parts Tryz.info3
  have SK : Hid ((W5.alloc (.cells #[] 3)).ownsRow W5.heap.size 3 1 (.slice (some ⟨W5.heap.size, 0, none⟩) 0 0) 0 (zcells (upZ (fun i => (i : Int)) 0))) := World.ownsRow_lit W5 #[] 0 (Nat.le_refl _) (by unfold maxLen; omega) (by rfl)
  go_wp2
  go_loopw [8, 9] (fun v s9 wr => ∃ i : Nat, i ≤ N ∧ s9 = .int .i64 i ∧ wr.ownsRow W5.heap.size 3 1 v i (zcells (upZ (fun i => (i : Int)) i)) ∧ Below W5.heap.size W5 wr) (fun _ s9 _ => N - (intOf s9).toNat)
  case atStart => exact ⟨0, Nat.zero_le _, rfl, SK.out, bel1 _ _⟩
  case round =>
    obtain ⟨i, hi, rfl, hO, hb⟩ := hrel
    clear SK
    obtain ⟨ra, rc, rfl⟩ := own_form hO
    have hbs := hb.size
    by_cases hlt : i < N
    case pos =>
      have li : (i : Int) < (N : Int) := by omega
      go_wp2_with (first | (at_builtin; refine wpList_append_lies _ rfl _ _ 33 rfl W5.heap.size 3 i1 _ 1 8 Tryz.underlying33 hj0 hj1 hj2 hj3 rfl (by omega) (.slice ra i rc) (i) (zcells (upZ (fun i => (i : Int)) i)) rfl (hO.alloc _) ⟨wr.heap.size, 0, none⟩ 1 1 [.int .i64 (i : Int)] rfl rfl (cell_one_new _ _ _) (by simp [Value.oneCell']) (by omega) (by unfold maxLen; omega) (by omega) (by simp; omega) (wr.heap.size + 1) (by simp) ?_; intro gg cap6 w6 hown6 hg6 hat6 hlt6))
      have HN : Hid (w6.ownsRow W5.heap.size 3 1 (.slice (some ⟨gg, 0, none⟩) (i + 1) cap6) (i + 1) (zcells (upZ (fun i => (i : Int)) (i + 1))) ∧ Below W5.heap.size W5 w6) :=
        ⟨by rw [upZ_succ]; unfold zcells; rw [List.map_append]; exact hown6, below_grown hb hbs hg6 (fun j hj => (hO.lt j hj).1)⟩
      clear hown6 hg6 hat6 hO hb
      go_wp2
      go_roundw
      case rel => exact ⟨i + 1, by omega, by go_num, HN.out.1, HN.out.2⟩
      case measure => simp [intOf]; omega
    have hin : i = N := by omega
    rw [hin] at hO ⊢
    have lN : ¬ (N : Int) < (N : Int) := by omega
    have d1 : wr.cell? ⟨w1.heap.size, 0, none⟩ = some (.slice oa N cap) := (hb.cell (p := ⟨w1.heap.size, 0, none⟩) y1).trans c1
    obtain ⟨gr, IR, _⟩ := own_zs hO
    have HIR : Hid (IntsAt wr ra gr 0 N (fun i => ((idn i : Nat) : Int))) := IR.congr (fun j hj => upZ_get _ hj)
    clear hin hlt hi IR
    go_wp2_with fail
    refine (w_canon oa ra cap N rc gr 0 idn wr HV.out (by omega) HNN.out HNK.out (fun i hi => hi) (HG1.out wr hb) HIR.out).mono ?_
    rintro e w7 ⟨cl, hcl, oc, bc, capc, pc, la, lb, lc, rfl, hN7, hI7, hb7⟩
    have F := canon_facts (kids_of HV.out) hcl
    obtain ⟨S, hS⟩ : ∃ S, S = allTill (G1 N N (gd G) idn) cl ((S1 N N (gd G) idn).length + 1) (ns1 N N (gd G) idn) [] N := ⟨_, rfl⟩
    rw [← hS] at F hN7 hI7 ⊢
    obtain ⟨cG, hcG⟩ : ∃ c, c = G2 (G1 N N (gd G) idn) cl S := ⟨_, rfl⟩
    obtain ⟨aT, haT⟩ : ∃ a : Nat → Nat, a = fun i => numOf cl S (ns1 N N (gd G) idn i) := ⟨_, rfl⟩
    obtain ⟨n2, hn2⟩ : ∃ n, n = S.length := ⟨_, rfl⟩
    have hI7' : IntsAt w7 la lb 0 N (fun i => (aT i : Int)) := by rw [haT]; exact hI7
    rw [← haT, ← hcG, ← hn2] at F
    rw [← hcG, ← hn2] at hN7
    rw [← hn2]
    clear hI7 hS hcG haT hn2 hcl HIR
    have HF : Hid (CanonF N (gd G) n2 cG aT) := F
    clear F
    have hb7W : Below W5.heap.size W5 w7 := hb.trans (hb7.mono hb.size)
    obtain ⟨W8, hW8⟩ : ∃ W8, W8 = w7.alloc (.cells #[.slice oc n2 capc] 25) := ⟨_, rfl⟩
    have B8 : Below w7.heap.size w7 W8 := by rw [hW8]; exact bel1 _ _
    have c8 : W8.cell? ⟨w7.heap.size, 0, none⟩ = some (.slice oc n2 capc) := by rw [hW8]; exact (row1 _ _ _).cell (i := 0) (by omega)
    have BW8 : Below W5.heap.size W5 W8 := hb7W.trans (B8.mono hb7W.size)
    have HC8 := hN7.below B8
    have HA8 := hI7'.below B8
    go_wp2_with fail
    rw [← hW8]
    clear hW8 hN7 hI7' B8 hb7W hb7 hb hO d1
    refine (g10 oc bc 0 n2 capc pc cG W8 HC8).mono ?_
    rintro e W9 ⟨rfl, hb9⟩
    rw [canon_valid HV.out HF.out]
    have BW9 : Below W5.heap.size W5 W9 := BW8.trans (hb9.mono BW8.size)
    have BWW : Below w.heap.size w W9 := BW5.trans (BW9.mono BW5.size)
    have HGa : Hid (∀ w', Below W9.heap.size W9 w' → NodesAt w' oa gb 0 N q (gd G)) := fun w' hb => HG1.out w' (BW9.trans (hb.mono BW9.size))
    have HGb : Hid (∀ w', Below W9.heap.size W9 w' → NodesAt w' oa' gb' 0 N q' (gd G)) := fun w' hb => HG2.out w' (BW9.trans (hb.mono BW9.size))
    have HGc : Hid (∀ w', Below W9.heap.size W9 w' → NodesAt w' oc bc 0 n2 pc cG) := fun w' hb => (HC8.below hb9).below hb
    have HAt : Hid (∀ w', Below W9.heap.size W9 w' → IntsAt w' la lb 0 N (fun i => (aT i : Int))) := fun w' hb => (HA8.below hb9).below hb
    have e1 : W9.cell? ⟨w1.heap.size, 0, none⟩ = some (.slice oa N cap) := (BW9.cell (p := ⟨w1.heap.size, 0, none⟩) y1).trans c1
    have e3 : W9.cell? ⟨w3.heap.size, 0, none⟩ = some (.slice oa' N cap') := (BW9.cell (p := ⟨w3.heap.size, 0, none⟩) y3).trans c3
    have e7 : W9.cell? ⟨w7.heap.size, 0, none⟩ = some (.slice oc n2 capc) := (hb9.cell (p := ⟨w7.heap.size, 0, none⟩) (World.block_lt_of_cell? _ _ c8)).trans c8
    have HE1 : Hid (∀ w', Below W9.heap.size W9 w' → w'.cell? ⟨w1.heap.size, 0, none⟩ = some (.slice oa N cap)) := fun w' hb => (hb.cell (p := ⟨w1.heap.size, 0, none⟩) (World.block_lt_of_cell? _ _ e1)).trans e1
    have HE3 : Hid (∀ w', Below W9.heap.size W9 w' → w'.cell? ⟨w3.heap.size, 0, none⟩ = some (.slice oa' N cap')) := fun w' hb => (hb.cell (p := ⟨w3.heap.size, 0, none⟩) (World.block_lt_of_cell? _ _ e3)).trans e3
    have HE7 : Hid (∀ w', Below W9.heap.size W9 w' → w'.cell? ⟨w7.heap.size, 0, none⟩ = some (.slice oc n2 capc)) := fun w' hb => (hb.cell (p := ⟨w7.heap.size, 0, none⟩) (World.block_lt_of_cell? _ _ e7)).trans e7
    have hn2N := HF.out.le
    obtain ⟨MB, hMB⟩ := truth (Same N (gd G))
    have HMB : Hid (∀ i j, MB i j = true ↔ Same N (gd G) i j) := hMB
    clear HC8 HA8 hb9 c8 BW8 HG1 HG2 c1 c3 y1 y3 BW9 BW5 e1 e3 e7 hMB
    go_wp2
    go_loopw [12] (fun s12 wr => ∃ i : Nat, i ≤ N ∧ s12 = .int .i64 i ∧ Below W9.heap.size W9 wr) (fun s12 _ => N - (intOf s12).toNat)
    case atStart => exact ⟨0, Nat.zero_le _, rfl, Below.refl _ _⟩
    case round =>
      rename World => wr
      obtain ⟨i, hi, rfl, hb⟩ := hrel
      by_cases hlt : i < N
      case pos =>
        have f7 := HE7.out wr hb
        have NAt := HAt.out wr hb
        have ela := NAt.at_ (by omega)
        subst ela
        have cA := NAt.cell i hlt
        have lai := HF.out.hom.lt i hlt
        obtain ⟨ai, hai⟩ : ∃ a, a = aT i := ⟨_, rfl⟩
        simp only [← hai, Nat.zero_add] at cA
        rw [← hai] at lai
        have eb := (HGb.out wr hb).at_ (by omega)
        subst eb
        have ec := (HGc.out wr hb).at_ (by omega)
        subst ec
        have hl := HF.out.hom.lab i hlt
        rw [← hai] at hl
        have HLB : Hid (Lab (gd G i) (cG ai)) := hl
        have HAI : Hid (aT i = ai) := hai.symm
        clear hai NAt hl
        have li : (i : Int) < (N : Int) := by omega
        have qd : decide ((ai : Int) < 0) = false := decide_eq_false (by omega)
        have qd' : ¬ (ai : Int) < 0 := by omega
        have qe : decide ((n2 : Int) ≤ (ai : Int)) = false := decide_eq_false (by omega)
        have qe' : ¬ (n2 : Int) ≤ (ai : Int) := by omega
        have lA : (ai : Int) < (n2 : Int) := by omega
        go_wp2
        go_quiet (fail)
        obtain ⟨wq, hwq⟩ : ∃ wq, wq = wr.drewN nq := ⟨_, rfl⟩
        rw [← hwq]
        have hbq : Below W9.heap.size W9 wq := by rw [hwq]; exact below_drewN hb _
        clear hwq cA f7 hb
        have NAt := HAt.out wq hbq
        have cA := NAt.cell i hlt
        simp only [HAI.out, Nat.zero_add] at cA
        have f3 := HE3.out wq hbq
        have f7 := HE7.out wq hbq
        have NGb := HGb.out wq hbq
        have NGc := HGc.out wq hbq
        have g0 := NGb.c0 i hlt
        have g1 := NGb.c1 i hlt
        have g2 := NGb.c2 i hlt
        have h0 := NGc.c0 ai lai
        have h1 := NGc.c1 ai lai
        have h2 := NGc.c2 ai lai
        simp only [Nat.zero_add] at g0 g1 g2 h0 h1 h2
        rw [← HLB.out.kind] at h0
        rw [← HLB.out.nn] at h1
        rw [← HLB.out.nk] at h2
        have HXN : Hid (∀ w', Below wq.heap.size wq w' → NodeAt w' (q' i) (gd G i)) := fun w' h => (NGb.node i hlt).below h
        have HYN : Hid (∀ w', Below wq.heap.size wq w' → NodeAt w' (pc ai) (cG ai)) := fun w' h => (NGc.node ai lai).below h
        have fk := HNK.out i hlt
        have fn := HNN.out i hlt
        have HKG : Hid (∀ j, j < (gd G i).nk → ∃ kx, kx < N ∧ (gd G i).kd j = (kx : Int) ∧ (cG ai).kd j = (aT kx : Int)) := fun j hj => by
          have hj2 : j < (cG ai).nk := by rw [← HLB.out.nk]; exact hj
          have r1 := kids_of HV.out i hlt j hj
          have r2 := HF.out.kids ai lai j hj2
          obtain ⟨_, r3⟩ := HF.out.hom.kids i hlt j hj
          rw [HAI.out] at r3
          refine ⟨kid (gd G i) j, by unfold kid; omega, by unfold kid; omega, ?_⟩
          rw [r3]; unfold kid; omega
        clear NGb NGc NAt
        obtain ⟨d, hd⟩ : ∃ d, d = gd G i := ⟨_, rfl⟩
        obtain ⟨pa, hpa⟩ : ∃ d, d = q' i := ⟨_, rfl⟩
        obtain ⟨pb, hpb⟩ : ∃ d, d = pc ai := ⟨_, rfl⟩
        rw [← hd] at g0 g1 g2 h0 h1 h2 fk fn HXN HLB HKG
        rw [← hpa] at g1 g2 HXN
        rw [← hpb] at h1 h2 HYN
        clear hd hpa hpb
        obtain ⟨W10, hW10⟩ : ∃ W, W = wq.alloc (.cells #[.int .i64 d.kind, .slice pa.a1 d.nn pa.c1, .slice pa.a2 d.nk pa.c2] 39) := ⟨_, rfl⟩
        have B10 : Below wq.heap.size wq W10 := by rw [hW10]; exact bel1 _ _
        have RX := row3 wq (.int .i64 d.kind) (.slice pa.a1 d.nn pa.c1) (.slice pa.a2 d.nk pa.c2) 39
        rw [← hW10] at RX
        have z10 : wq.heap.size < W10.heap.size := RX.lt
        go_wp2
        rw [← hW10]
        clear hW10 g0 g1 g2 f3
        have t7 := (B10.cell (p := ⟨w7.heap.size, 0, none⟩) (World.block_lt_of_cell? _ _ f7)).trans f7
        have tA := (B10.cell (p := ⟨lb, i, none⟩) (World.block_lt_of_cell? _ _ cA)).trans cA
        have t0 := (B10.cell (p := ⟨bc, ai * 3, none⟩) (World.block_lt_of_cell? _ _ h0)).trans h0
        have t1 := (B10.cell (p := ⟨bc, ai * 3 + 1, none⟩) (World.block_lt_of_cell? _ _ h1)).trans h1
        have t2 := (B10.cell (p := ⟨bc, ai * 3 + 2, none⟩) (World.block_lt_of_cell? _ _ h2)).trans h2
        clear f7 cA h0 h1 h2
        have Z0 := bel1 W10 (.cells #[.int .i64 0, .slice none 0 0, .slice none 0 0] 39)
        have R0 := row3 W10 (.int .i64 0) (.slice none 0 0) (.slice none 0 0) 39
        have t7' := (Z0.cell (p := ⟨w7.heap.size, 0, none⟩) (World.block_lt_of_cell? _ _ t7)).trans t7
        have tA' := (Z0.cell (p := ⟨lb, i, none⟩) (World.block_lt_of_cell? _ _ tA)).trans tA
        have t0' := (Z0.cell (p := ⟨bc, ai * 3, none⟩) (World.block_lt_of_cell? _ _ t0)).trans t0
        have t1' := (Z0.cell (p := ⟨bc, ai * 3 + 1, none⟩) (World.block_lt_of_cell? _ _ t1)).trans t1
        have t2' := (Z0.cell (p := ⟨bc, ai * 3 + 2, none⟩) (World.block_lt_of_cell? _ _ t2)).trans t2
        have b0 := R0.cell (i := 0) (by omega)
        have b1 := R0.cell (i := 1) (by omega)
        have b2 := R0.cell (i := 2) (by omega)
        have v0 := R0.frozen 0
        have v1 := R0.frozen 1
        have v2 := R0.frozen 2
        obtain ⟨W11, hW11⟩ : ∃ W, W = (W10.alloc (.cells #[.int .i64 d.kind, .slice pb.a1 d.nn pb.c1, .slice pb.a2 d.nk pb.c2] 39)).drew := ⟨_, rfl⟩
        have B11 : Below W10.heap.size W10 W11 := by rw [hW11]; exact (bel1 _ _).drew
        have RY := row3 W10 (.int .i64 d.kind) (.slice pb.a1 d.nn pb.c1) (.slice pb.a2 d.nk pb.c2) 39
        have y0 : W11.cell? ⟨W10.heap.size, 0, none⟩ = some (.int .i64 d.kind) := by rw [hW11]; exact RY.cell (i := 0) (by omega)
        have y1 : W11.cell? ⟨W10.heap.size, 1, none⟩ = some (.slice pb.a1 d.nn pb.c1) := by rw [hW11]; exact RY.cell (i := 1) (by omega)
        have y2 : W11.cell? ⟨W10.heap.size, 2, none⟩ = some (.slice pb.a2 d.nk pb.c2) := by rw [hW11]; exact RY.cell (i := 2) (by omega)
        have RX11 := RX.of_block (B11.block _ z10)
        have x0 : W11.cell? ⟨wq.heap.size, 0, none⟩ = some (.int .i64 d.kind) := RX11.cell (i := 0) (by omega)
        have x1 : W11.cell? ⟨wq.heap.size, 1, none⟩ = some (.slice pa.a1 d.nn pa.c1) := RX11.cell (i := 1) (by omega)
        have x2 : W11.cell? ⟨wq.heap.size, 2, none⟩ = some (.slice pa.a2 d.nk pa.c2) := RX11.cell (i := 2) (by omega)
        go_region
        rw [← hW11]
        clear hW11 RX RY RX11 Z0 R0 t7 tA t0 t1 t2 t7' tA' t0' t1' t2' b0 b1 b2 v0 v1 v2
        have BQ11 : Below wq.heap.size wq W11 := B10.trans (B11.mono B10.size)
        have BB11 : Below W9.heap.size W9 W11 := hbq.trans (BQ11.mono hbq.size)
        clear B10 B11
        go_wp2
        go_loopw [15] (fun s15 wx => ∃ j : Nat, j ≤ d.nk ∧ s15 = .int .i64 j ∧ Below W11.heap.size W11 wx) (fun s15 _ => d.nk - (intOf s15).toNat)
        case atStart => exact ⟨0, Nat.zero_le _, rfl, Below.refl _ _⟩
        case round =>
          rename World => wx
          obtain ⟨j, hj, rfl, hbx⟩ := hrel
          have X2 : wx.cell? ⟨wq.heap.size, 2, none⟩ = some (.slice pa.a2 d.nk pa.c2) := (hbx.cell (p := ⟨wq.heap.size, 2, none⟩) (World.block_lt_of_cell? _ _ x2)).trans x2
          have Y2 : wx.cell? ⟨W10.heap.size, 2, none⟩ = some (.slice pb.a2 d.nk pb.c2) := (hbx.cell (p := ⟨W10.heap.size, 2, none⟩) (World.block_lt_of_cell? _ _ y2)).trans y2
          have BX : Below wq.heap.size wq wx := BQ11.trans (hbx.mono BQ11.size)
          have BBX : Below W9.heap.size W9 wx := BB11.trans (hbx.mono BB11.size)
          by_cases hjl : j < d.nk
          case pos =>
            obtain ⟨kx, lkx, ekx, eky⟩ := HKG.out j hjl
            have NX := (HXN.out wx BX).kids
            have NY := (HYN.out wx BX).kids
            have hjy : j < (cG ai).nk := by rw [← HLB.out.nk]; exact hjl
            rw [NX.at_ (by omega)] at X2
            rw [NY.at_ (by omega)] at Y2
            have ck := NX.cell j hjl
            have cy := NY.cell j hjy
            rw [ekx] at ck
            rw [eky] at cy
            have ca' := (HAt.out wx BBX).cell kx lkx
            simp only [Nat.zero_add] at ca'
            obtain ⟨ak, hak⟩ : ∃ a, a = aT kx := ⟨_, rfl⟩
            simp only [← hak] at ca' cy
            have lj : (j : Int) < (d.nk : Int) := by omega
            have lkx' : (kx : Int) < (N : Int) := by omega
            have qq : ((ak : Int) == (ak : Int)) = true := by simp
            clear NX NY ekx eky hak
            go_wp2
            go_quiet (fail)
            go_wp2
            go_roundw
            case rel => exact ⟨j + 1, by omega, by go_num, by first | exact hbx | exact hbx.drew | exact below_drewN hbx _⟩
            case measure => simp [intOf]; omega
          have lj : ¬ (j : Int) < (d.nk : Int) := by omega
          go_wp2
          clear X2 Y2 lj hjl
          go_loopw [16] (fun s16 wy => ∃ t : Nat, t ≤ d.nn ∧ s16 = .int .i64 t ∧ Below W11.heap.size W11 wy) (fun s16 _ => d.nn - (intOf s16).toNat)
          case atStart => exact ⟨0, Nat.zero_le _, rfl, hbx⟩
          case round =>
            clear hbx BX BBX
            rename World => wy
            obtain ⟨t, ht, rfl, hby⟩ := hrel
            have X1 : wy.cell? ⟨wq.heap.size, 1, none⟩ = some (.slice pa.a1 d.nn pa.c1) := (hby.cell (p := ⟨wq.heap.size, 1, none⟩) (World.block_lt_of_cell? _ _ x1)).trans x1
            have Y1 : wy.cell? ⟨W10.heap.size, 1, none⟩ = some (.slice pb.a1 d.nn pb.c1) := (hby.cell (p := ⟨W10.heap.size, 1, none⟩) (World.block_lt_of_cell? _ _ y1)).trans y1
            have BY : Below wq.heap.size wq wy := BQ11.trans (hby.mono BQ11.size)
            by_cases htl : t < d.nn
            case pos =>
              have NX := (HXN.out wy BY).names
              have NY := (HYN.out wy BY).names
              have hty : t < (cG ai).nn := by rw [← HLB.out.nn]; exact htl
              rw [NX.at_ (by omega)] at X1
              rw [NY.at_ (by omega)] at Y1
              have ck := NX.cell t htl
              have cy := NY.cell t hty
              rw [← HLB.out.nm t htl] at cy
              have lt' : (t : Int) < (d.nn : Int) := by omega
              clear NX NY
              go_wp2
              go_quiet (fail)
              go_wp2
              go_roundw
              case rel => exact ⟨t + 1, by omega, by go_num, by first | exact hby | exact hby.drew | exact below_drewN hby _⟩
              case measure => simp [intOf]; omega
            have lt' : ¬ (t : Int) < (d.nn : Int) := by omega
            have BBY : Below W9.heap.size W9 wy := BB11.trans (hby.mono BB11.size)
            go_wp2
            clear lt' X1 Y1 hby BY htl
            go_loopw [17] (fun s17 wz => ∃ j : Nat, j ≤ i ∧ s17 = .int .i64 j ∧ Below W9.heap.size W9 wz) (fun s17 _ => i - (intOf s17).toNat)
            case atStart => exact ⟨0, Nat.zero_le _, rfl, BBY⟩
            case round =>
              clear BBY
              rename World => wz
              obtain ⟨j, hj, rfl, hbz⟩ := hrel
              by_cases hji : j < i
              case neg =>
                have lj : ¬ (j : Int) < (i : Int) := by omega
                go_wp2
                go_roundw
                case rel => exact ⟨i + 1, by omega, by go_num, hbz⟩
                case measure => simp [intOf]; omega
              have lj : (j : Int) < (i : Int) := by omega
              have hjN : j < N := by omega
              have f1 := HE1.out wz hbz
              go_wp2_with fail
              refine (same_call (MB := MB) oa gb 0 cap q i j wz (HGa.out wz hbz) HNK.out HV.out HMB.out hlt hjN).mono ?_
              rintro e wA ⟨rfl, hbA⟩
              have BBA : Below W9.heap.size W9 wA := hbz.trans (hbA.mono hbz.size)
              have HCS : Hid (∀ w', Below W9.heap.size W9 w' → Calls Tryz.prog 14 #[.agg #[.slice (some ⟨gb', 0, none⟩) N cap'], .int .i64 (i : Int), .int .i64 (j : Int)] w' fun e w'' => e = .returned (.bool (MB i j)) ∧ Below w'.heap.size w' w'') := fun w' hb => by
                refine (sm5 (some ⟨gb', 0, none⟩) gb' 0 N cap' q' (gd G) (i : Int) (j : Int) w' (HGb.out w' hb)).mono ?_
                rintro e w'' ⟨r, rfl, hr, hb'⟩
                refine ⟨?_, hb'⟩
                have : r = MB i j := by
                  rw [Bool.eq_iff_iff, hr, HMB.out]
                  exact ⟨fun h => by have := h.same; simpa using this, fun h => ⟨HV.out, by omega, by omega, by omega, by omega, by simpa using h⟩⟩
                rw [this]
              have HEQ : Hid (MB i j = true ↔ ai = aT j) := by
                show MB i j = true ↔ _
                rw [HMB.out, ← HF.out.same i j hlt hjN, HAI.out]
              obtain ⟨b, hbq'⟩ : ∃ b, b = MB i j := ⟨_, rfl⟩
              rw [← hbq'] at HCS HEQ ⊢
              clear hbq' hbz hbA f1
              have f3 := HE3.out wA BBA
              obtain ⟨aj, haj⟩ : ∃ a, a = aT j := ⟨_, rfl⟩
              rw [← haj] at HEQ
              have cI := (HAt.out wA BBA).cell i hlt
              have cJ := (HAt.out wA BBA).cell j hjN
              simp only [HAI.out, ← haj, Nat.zero_add] at cI cJ
              clear haj
              have lj2 : (j : Int) < (N : Int) := by omega
              have w3A := World.block_lt_of_cell? _ _ f3
              have lbA := World.block_lt_of_cell? _ _ cI
              cases b
              case false =>
                have qa : ((ai : Int) == (aj : Int)) = false := beq_eq_false_iff_ne.2 (fun e => by have := HEQ.out.2 (by omega); cases this)
                clear HEQ
                go_wp2
                go_region_held3 (fun w' => w'.cell? ⟨w3.heap.size, 0, none⟩ = some (.slice (some ⟨gb', 0, none⟩) N cap') ∧ w'.cell? ⟨lb, i, none⟩ = some (.int .i64 (ai : Int)) ∧ w'.cell? ⟨lb, j, none⟩ = some (.int .i64 (aj : Int))) (go_keep)
                  (first
                    | (go_at_call 14; refine (HCS.out _ (by first | exact BBA | exact BBA.drew | exact below_drewN BBA _)).mono ?_; rintro e wB ⟨rfl, hbB⟩; have s3 := (hbB.cell (p := ⟨w3.heap.size, 0, none⟩) w3A).trans f3; have sI := (hbB.cell (p := ⟨lb, i, none⟩) lbA).trans cI; have sJ := (hbB.cell (p := ⟨lb, j, none⟩) lbA).trans cJ; have BBB : Below W9.heap.size W9 wB := BBA.trans (Below.mono ⟨hbB.os, hbB.tape, hbB.output, hbB.size, hbB.block⟩ BBA.size)))
                all_goals
                  go_wp2
                  go_roundw
                  case rel => exact ⟨j + 1, by omega, by go_num, by first | exact BBB | exact BBB.drew | exact below_drewN BBB _⟩
                  case measure => simp [intOf]; omega
              case true =>
                have qa : ((ai : Int) == (aj : Int)) = true := by have := HEQ.out.1 rfl; rw [beq_iff_eq]; omega
                clear HEQ
                go_wp2
                go_region_held3 (fun w' => w'.cell? ⟨w3.heap.size, 0, none⟩ = some (.slice (some ⟨gb', 0, none⟩) N cap') ∧ w'.cell? ⟨lb, i, none⟩ = some (.int .i64 (ai : Int)) ∧ w'.cell? ⟨lb, j, none⟩ = some (.int .i64 (aj : Int))) (go_keep)
                  (first
                    | (go_at_call 14; refine (HCS.out _ (by first | exact BBA | exact BBA.drew | exact below_drewN BBA _)).mono ?_; rintro e wB ⟨rfl, hbB⟩; have s3 := (hbB.cell (p := ⟨w3.heap.size, 0, none⟩) w3A).trans f3; have sI := (hbB.cell (p := ⟨lb, i, none⟩) lbA).trans cI; have sJ := (hbB.cell (p := ⟨lb, j, none⟩) lbA).trans cJ; have BBB : Below W9.heap.size W9 wB := BBA.trans (Below.mono ⟨hbB.os, hbB.tape, hbB.output, hbB.size, hbB.block⟩ BBA.size)))
                all_goals
                  go_wp2
                  go_roundw
                  case rel => exact ⟨j + 1, by omega, by go_num, by first | exact BBB | exact BBB.drew | exact below_drewN BBB _⟩
                  case measure => simp [intOf]; omega
      have li : ¬ (i : Int) < (N : Int) := by omega
      clear hlt hi
      obtain ⟨W20, hW20⟩ : ∃ W, W = wr := ⟨_, rfl⟩
      rw [← hW20] at hb ⊢
      clear hW20
      have HB20 : Hid (Below W9.heap.size W9 W20) := hb
      have SK2 : Hid ((W20.alloc (.cells #[] 3)).ownsRow W20.heap.size 3 1 (.slice (some ⟨W20.heap.size, 0, none⟩) 0 0) 0 (zcells (upZ (fun i => (aT i : Int)) 0))) := World.ownsRow_lit W20 #[] 0 (Nat.le_refl _) (by unfold maxLen; omega) (by rfl)
      clear hb
      go_wp2
      go_loopw [19, 20] (fun v s20 wx => ∃ k : Nat, k ≤ N ∧ s20 = .int .i64 k ∧ wx.ownsRow W20.heap.size 3 1 v k (zcells (upZ (fun i => (aT i : Int)) k)) ∧ Below W20.heap.size W20 wx) (fun _ s20 _ => N - (intOf s20).toNat)
      case atStart => exact ⟨0, Nat.zero_le _, rfl, SK2.out, bel1 _ _⟩
      case round =>
        rename World => wx
        obtain ⟨k, hk, rfl, hO, hbx⟩ := hrel
        clear SK2
        obtain ⟨ra2, rc2, rfl⟩ := own_form hO
        have hbs2 := hbx.size
        have BX9 : Below W9.heap.size W9 wx := HB20.out.trans (hbx.mono HB20.out.size)
        by_cases hkl : k < N
        case pos =>
          have lk : (k : Int) < (N : Int) := by omega
          have NAt := HAt.out wx BX9
          have ela := NAt.at_ (by omega)
          subst ela
          have cA := NAt.cell k hkl
          obtain ⟨ak, hak⟩ : ∃ a, a = aT k := ⟨_, rfl⟩
          simp only [← hak, Nat.zero_add] at cA
          have HAK : Hid (aT k = ak) := hak.symm
          clear hak NAt
          go_wp2_with (first | (at_builtin; refine wpList_append_lies _ rfl _ _ 33 rfl W20.heap.size 3 i1 _ 1 8 Tryz.underlying33 hj0 hj1 hj2 hj3 rfl (by omega) (.slice ra2 k rc2) (k) (zcells (upZ (fun i => (aT i : Int)) k)) rfl (hO.alloc _) ⟨wx.heap.size, 0, none⟩ 1 1 [.int .i64 (ak : Int)] rfl rfl (cell_one_new _ _ _) (by simp [Value.oneCell']) (by omega) (by unfold maxLen; omega) (by omega) (by simp; omega) (wx.heap.size + 1) (by simp) ?_; intro gg cap6 w6 hown6 hg6 hat6 hlt6))
          have HN : Hid (w6.ownsRow W20.heap.size 3 1 (.slice (some ⟨gg, 0, none⟩) (k + 1) cap6) (k + 1) (zcells (upZ (fun i => (aT i : Int)) (k + 1))) ∧ Below W20.heap.size W20 w6) :=
            ⟨by rw [upZ_succ, HAK.out]; unfold zcells; rw [List.map_append]; exact hown6, below_grown hbx hbs2 hg6 (fun j hj => (hO.lt j hj).1)⟩
          clear hown6 hg6 hat6 hO hbx BX9
          go_wp2
          go_roundw
          case rel => exact ⟨k + 1, by omega, by go_num, HN.out.1, HN.out.2⟩
          case measure => simp [intOf]; omega
        have hkN : k = N := by omega
        rw [hkN] at hO ⊢
        have lN2 : ¬ (N : Int) < (N : Int) := by omega
        have f7 := HE7.out wx BX9
        obtain ⟨gr2, IR2, _⟩ := own_zs hO
        have HIR2 : Hid (IntsAt wx ra2 gr2 0 N (fun i => (aT i : Int))) := IR2.congr (fun j hj => upZ_get _ hj)
        have HCB : Hid ((∀ x, x < n2 → (cG x).nn ≤ 1048576) ∧ ∀ x, x < n2 → (cG x).nk ≤ 1048576) := by
          refine ⟨fun x hx => ?_, fun x hx => ?_⟩
          · obtain ⟨i, hi, rfl⟩ := HF.out.onto x hx
            rw [← (HF.out.hom.lab i hi).nn]; exact HNN.out i hi
          · obtain ⟨i, hi, rfl⟩ := HF.out.onto x hx
            rw [← (HF.out.hom.lab i hi).nk]; exact HNK.out i hi
        clear hkN hkl hk IR2 hO
        go_wp2_with fail
        refine (w_canon oc ra2 capc N rc2 gr2 0 aT wx (canon_valid HV.out HF.out) (by omega) HCB.out.1 HCB.out.2 HF.out.hom.lt (HGc.out wx BX9) HIR2.out).mono ?_
        rintro e wC ⟨cl2, hcl2, od, bd, capd, pd, ta, tb, tc, rfl, hND, hID, hbC⟩
        have F2 := canon_again HF.out hcl2
        obtain ⟨S2, hS2⟩ : ∃ S, S = allTill (G1 n2 N cG aT) cl2 ((S1 n2 N cG aT).length + 1) (ns1 n2 N cG aT) [] N := ⟨_, rfl⟩
        rw [← hS2] at F2 hND hID ⊢
        obtain ⟨dG, hdG⟩ : ∃ c, c = G2 (G1 n2 N cG aT) cl2 S2 := ⟨_, rfl⟩
        obtain ⟨tT, htT⟩ : ∃ a : Nat → Nat, a = fun i => numOf cl2 S2 (ns1 n2 N cG aT i) := ⟨_, rfl⟩
        have hID' : IntsAt wC ta tb 0 N (fun i => (tT i : Int)) := by rw [htT]; exact hID
        rw [← htT, ← hdG] at F2
        rw [← hdG] at hND
        have el := F2.len
        rw [el] at hND ⊢
        have hID2 : IntsAt wC ta tb 0 N (fun i => (aT i : Int)) := hID'.congr (fun i hi => by rw [F2.num i hi])
        have HND : Hid (∀ x, x < n2 → Lab (cG x) (dG x) ∧ ∀ j, j < (cG x).nk → (cG x).kd j = (dG x).kd j) := fun x hx => ⟨(F2.node x hx).1.symm, fun j hj => ((F2.node x hx).2 j hj).symm⟩
        have BC9 : Below W9.heap.size W9 wC := BX9.trans (hbC.mono BX9.size)
        clear hID hID' hS2 hdG htT F2 el hcl2 hbC HIR2 f7
        obtain ⟨WD, hWD⟩ : ∃ W, W = wC.alloc (.cells #[.slice od n2 capd] 25) := ⟨_, rfl⟩
        have BD : Below wC.heap.size wC WD := by rw [hWD]; exact bel1 _ _
        have cD : WD.cell? ⟨wC.heap.size, 0, none⟩ = some (.slice od n2 capd) := by rw [hWD]; exact (row1 _ _ _).cell (i := 0) (by omega)
        have BD9 : Below W9.heap.size W9 WD := BC9.trans (BD.mono BC9.size)
        have f7 := HE7.out WD BD9
        have HNDn : Hid (∀ w', Below WD.heap.size WD w' → NodesAt w' od bd 0 n2 pd dG) := fun w' hb => (hND.below BD).below hb
        have HTI : Hid (∀ w', Below WD.heap.size WD w' → IntsAt w' ta tb 0 N (fun i => (aT i : Int))) := fun w' hb => (hID2.below BD).below hb
        have f7A : ∀ o, o = Obj.cells #[.slice od n2 capd] 25 → (wC.alloc o).cell? ⟨w7.heap.size, 0, none⟩ = some (.slice oc n2 capc) := fun o ho => by rw [ho, ← hWD]; exact f7
        have f7B := f7A _ rfl
        clear f7A hND hID2
        go_wp2
        rw [← hWD]
        clear hWD f7B BD
        go_loopw [23] (fun s23 wy => ∃ k : Nat, k ≤ N ∧ s23 = .int .i64 k ∧ Below WD.heap.size WD wy) (fun s23 _ => N - (intOf s23).toNat)
        case atStart => exact ⟨0, Nat.zero_le _, rfl, Below.refl _ _⟩
        case round =>
          rename World => wy
          obtain ⟨k, hk, rfl, hby⟩ := hrel
          have BY9 : Below W9.heap.size W9 wy := BD9.trans (hby.mono BD9.size)
          by_cases hkl : k < N
          case pos =>
            have lk : (k : Int) < (N : Int) := by omega
            have NAt := HAt.out wy BY9
            have NTo := HTI.out wy hby
            have ela := NAt.at_ (by omega)
            have eta := NTo.at_ (by omega)
            subst ela
            subst eta
            have cA := NAt.cell k hkl
            have cT := NTo.cell k hkl
            obtain ⟨ak, hak⟩ : ∃ a, a = aT k := ⟨_, rfl⟩
            simp only [← hak, Nat.zero_add] at cA cT
            have qq : ((ak : Int) == (ak : Int)) = true := by simp
            clear hak NAt NTo
            go_wp2
            go_quiet (fail)
            go_wp2
            go_roundw
            case rel => exact ⟨k + 1, by omega, by go_num, by first | exact hby | exact hby.drew | exact below_drewN hby _⟩
            case measure => simp [intOf]; omega
          have lk : ¬ (k : Int) < (N : Int) := by omega
          have g7 := HE7.out wy BY9
          have gD : wy.cell? ⟨wC.heap.size, 0, none⟩ = some (.slice od n2 capd) := (hby.cell (p := ⟨wC.heap.size, 0, none⟩) (World.block_lt_of_cell? _ _ cD)).trans cD
          go_wp2_with fail
          refine (l_sameGraph oc od bc 0 bd 0 n2 capc capd pc pd cG dG wy (HGc.out wy BY9) (HNDn.out wy hby) HND.out HCB.out.2 HCB.out.1 (by omega)).mono ?_
          rintro e wE ⟨rfl, hbE⟩
          have BF : Below w.heap.size w wE := BWW.trans ((BY9.trans (hbE.mono BY9.size)).mono BWW.size)
          clear hbE
          go_wp2
          go_ret
          exact ⟨rfl, BF⟩

end Go.Proofs.YtoanhnmpkonbfaaGreatDoor
