/-
  FnSub: the law walked.
-/
import Derived.Test.YtoanhnmpkonbfaaGreatDoorMK
import Derived.Deep.RegionHeld3
import Derived.Deep.DeepCutAuto
import Derived.BigQuiet
namespace Go.Proofs.YtoanhnmpkonbfaaGreatDoor
open Go.RowKit Go.Maps

theorem idx {N M x y : Nat} (hM : M = N * N) (hN : N ≤ 60) (hx : x < N) (hy : y < N) : ∃ AT : Nat, AT = x * N + y ∧ (x : Int) * (N : Int) + (y : Int) = (AT : Int) ∧ AT < M ∧ (x : Int) * (N : Int) ≤ 3600 ∧ 0 ≤ (x : Int) * (N : Int) := by
  refine ⟨x * N + y, rfl, by simp, ?_, ?_, Int.mul_nonneg (by omega) (by omega)⟩
  · rw [hM]
    exact Nat.lt_of_lt_of_le (Nat.add_lt_add_left hy _) (by rw [← Nat.succ_mul]; exact Nat.mul_le_mul_right _ hx)
  · have : x * N ≤ 60 * 60 := Nat.mul_le_mul (by omega) hN
    have e : (x : Int) * (N : Int) = ((x * N : Nat) : Int) := by simp
    rw [e]; omega

theorem flat {N x y : Nat} (f : Nat → Nat → Bool) (hy : y < N) : f ((x * N + y) / N) ((x * N + y) % N) = f x y := by
  have h0 : 0 < N := by omega
  have e1 : (x * N + y) / N = x := by rw [Nat.mul_comm, Nat.mul_add_div h0, Nat.div_eq_of_lt hy]; omega
  have e2 : (x * N + y) % N = y := by rw [Nat.mul_comm, Nat.mul_add_mod, Nat.mod_eq_of_lt hy]
  rw [e1, e2]

theorem own3_us {w1 wr : World} {v1 v2 v3 : Value} {n1 n2 n3 : Nat} {f1 f2 f3 g3 : Nat → Bool} (h : Own3 w1 wr v1 v2 v3 n1 n2 n3 f1 f2 f3) (hg : ∀ t, t < n3 → f3 t = g3 t) : Own3 w1 wr v1 v2 v3 n1 n2 n3 f1 f2 g3 :=
  ⟨h.o1, h.o2, by rw [← bl_congr hg]; exact h.o3, h.n12, h.n13, h.n23, h.below⟩

set_option maxRecDepth 100000 in
set_option maxHeartbeats 32000000 in
theorem l_FnSub (ca : Option Addr) (cb co L cc : Nat) (C : Nat → Nat) (w : World) (h : BytesAt w ca cb co L C) :
    Calls Tryz.prog 3 #[.slice ca L cc] w fun e w' => e = .returned (.bool true) ∧ Below w.heap.size w w' := by
  by_cases hL : L ≤ 1048576
  case neg =>
    have qL : (1048576 : Int) < (L : Int) := by omega
    have hl := h.len
    clear h hL
    go_enter Tryz.func3, Tryz.ntmps3
    go_wp2
    go_ret
    exact ⟨rfl, Below.refl _ _⟩
  have qL : ¬ (1048576 : Int) < (L : Int) := by omega
  obtain ⟨N, G, a, b, T⟩ := draw_two C L hL
  have HW : Hid (BytesAt w ca cb co L C) := h
  have HT : Hid (TwoOk C L N G a b) := T
  have hN100 := T.small
  have HNK : Hid (∀ i, i < N → (gd G i).nk ≤ 1048576) := fun i hi => Nat.le_trans (T.few i hi).2 (by omega)
  have HNN : Hid (∀ i, i < N → (gd G i).nn ≤ 1048576) := fun i hi => Nat.le_trans (T.few i hi).1 (by omega)
  clear h T
  go_enter Tryz.func3, Tryz.ntmps3
  go_wp2_with fail
  refine (d_sub HT.out ca cb co cc w HW.out).mono ?_
  rintro e w1 ⟨oa, cap, gb, q, rfl, hN1, hb1⟩
  obtain ⟨W2, hW2⟩ : ∃ W2, W2 = w1.alloc (.cells #[.slice oa N cap] 25) := ⟨_, rfl⟩
  have B2 : Below w1.heap.size w1 W2 := by rw [hW2]; exact bel1 _ _
  have z2 : w1.heap.size < W2.heap.size := by rw [hW2]; simp
  have c2 : W2.cell? ⟨w1.heap.size, 0, none⟩ = some (.slice oa N cap) := by rw [hW2]; exact (row1 _ _ _).cell (i := 0) (by omega)
  have BW2 : Below w.heap.size w W2 := hb1.trans (B2.mono hb1.size)
  have hN2 := hN1.below B2
  go_wp2_with fail
  rw [← hW2]
  clear hW2 hN1
  refine (d_sub HT.out ca cb co cc W2 (HW.out.below BW2)).mono ?_
  rintro e w3 ⟨oa', cap', gb', q', rfl, hN3, hb3⟩
  obtain ⟨W4, hW4⟩ : ∃ W4, W4 = w3.alloc (.cells #[.slice oa' N cap'] 25) := ⟨_, rfl⟩
  have B4 : Below w3.heap.size w3 W4 := by rw [hW4]; exact bel1 _ _
  have z4 : w3.heap.size < W4.heap.size := by rw [hW4]; simp
  have c4 : W4.cell? ⟨w3.heap.size, 0, none⟩ = some (.slice oa' N cap') := by rw [hW4]; exact (row1 _ _ _).cell (i := 0) (by omega)
  have BW4' : Below W2.heap.size W2 W4 := hb3.trans (B4.mono hb3.size)
  have BW4 : Below w.heap.size w W4 := BW2.trans (BW4'.mono BW2.size)
  have hM4 := hN3.below B4
  have hN4 := hN2.below BW4'
  have c24 : W4.cell? ⟨w1.heap.size, 0, none⟩ = some (.slice oa N cap) := (BW4'.cell (p := ⟨w1.heap.size, 0, none⟩) z2).trans c2
  have z24 : w1.heap.size < W4.heap.size := World.block_lt_of_cell? _ _ c24
  go_wp2_with fail
  rw [← hW4]
  clear hW4 hN3 hN2 c2 hb1 hb3 B2 B4 BW4'
  refine (g10 oa' gb' 0 N cap' q' (gd G) W4 hM4).mono ?_
  rintro e W5 ⟨rfl, hb5⟩
  have BW5 : Below w.heap.size w W5 := BW4.trans (hb5.mono BW4.size)
  have HG1 : Hid (∀ w', Below W5.heap.size W5 w' → NodesAt w' oa gb 0 N q (gd G)) := fun w' hb => (hN4.below hb5).below hb
  have HG2 : Hid (∀ w', Below W5.heap.size W5 w' → NodesAt w' oa' gb' 0 N q' (gd G)) := fun w' hb => (hM4.below hb5).below hb
  have c1 : W5.cell? ⟨w1.heap.size, 0, none⟩ = some (.slice oa N cap) := (hb5.cell (p := ⟨w1.heap.size, 0, none⟩) z24).trans c24
  have c3 : W5.cell? ⟨w3.heap.size, 0, none⟩ = some (.slice oa' N cap') := (hb5.cell (p := ⟨w3.heap.size, 0, none⟩) z4).trans c4
  have y1 : w1.heap.size < W5.heap.size := World.block_lt_of_cell? _ _ c1
  have y3 : w3.heap.size < W5.heap.size := World.block_lt_of_cell? _ _ c3
  clear hb5 hN4 hM4 c24 c4 BW4 BW2 z2 z4 z24
  cases hv : vgr N (gd G)
  case false =>
    clear hv
    go_wp2
    go_ret
    exact ⟨rfl, BW5⟩
  have HV : Hid (vgr N (gd G) = true) := hv
  clear hv
  by_cases h60 : N ≤ 60
  case neg =>
    have q60 : (60 : Int) < (N : Int) := by omega
    clear h60
    go_wp2
    go_ret
    exact ⟨rfl, BW5⟩
  have q60 : ¬ (60 : Int) < (N : Int) := by omega
  by_cases hN0 : N = 0
  case pos =>
    have qN : ((N : Int) == 0) = true := by rw [beq_iff_eq]; omega
    clear hN0
    go_wp2
    go_ret
    exact ⟨rfl, BW5⟩
  have qN : ((N : Int) == 0) = false := beq_eq_false_iff_ne.2 (by omega)
  obtain ⟨SB, hSB⟩ := truth (SubP (gd G))
  obtain ⟨MB, hMB⟩ := truth (Same N (gd G))
  have HSB : Hid (∀ i j, SB i j = true ↔ SubP (gd G) i j) := hSB
  have HMB : Hid (∀ i j, MB i j = true ↔ Same N (gd G) i j) := hMB
  obtain ⟨SA, hSA⟩ : ∃ r : Bool, r = true ↔ SubAns N (gd G) a b := by
    obtain ⟨f, hf⟩ := truth (fun _ _ => SubAns N (gd G) a b)
    exact ⟨f 0 0, hf 0 0⟩
  have HSA : Hid (SA = true ↔ SubAns N (gd G) a b) := hSA
  clear hSB hMB hSA
  have CA : ∀ w', Below W5.heap.size W5 w' → Calls Tryz.prog 8 #[.agg #[.slice oa N cap], .int .i64 a, .int .i64 b] w' fun e w'' => e = .returned (.bool SA) ∧ Below w'.heap.size w' w'' := fun w' hb => by
    refine (w8 oa gb 0 N cap q (gd G) a b w' (HG1.out w' hb) HNK.out HNN.out).mono ?_
    rintro e w'' ⟨hP, hb'⟩
    refine ⟨?_, hb'⟩
    rcases hP with ⟨rfl, hn⟩ | ⟨rfl, hy⟩
    · cases e : SA with
      | false => rfl
      | true => exact absurd (HSA.out.1 e) hn
    · rw [HSA.out.2 hy]
  have CB : ∀ w', Below W5.heap.size W5 w' → Calls Tryz.prog 9 #[.agg #[.slice oa' N cap'], .int .i64 a, .int .i64 b] w' fun e w'' => e = .returned (.bool SA) ∧ Below w'.heap.size w' w'' := fun w' hb => by
    refine (m_Sub oa' gb' 0 N cap' q' (gd G) a b w' (HG2.out w' hb) HNN.out).mono ?_
    rintro e w'' ⟨r, rfl, hr, hb'⟩
    refine ⟨?_, hb'⟩
    have : r = SA := by rw [Bool.eq_iff_iff, hr, HSA.out]
    rw [this]
  have HCA : Hid (∀ w', Below W5.heap.size W5 w' → Calls Tryz.prog 8 #[.agg #[.slice oa N cap], .int .i64 a, .int .i64 b] w' fun e w'' => e = .returned (.bool SA) ∧ Below w'.heap.size w' w'') := CA
  have HCB : Hid (∀ w', Below W5.heap.size W5 w' → Calls Tryz.prog 9 #[.agg #[.slice oa' N cap'], .int .i64 a, .int .i64 b] w' fun e w'' => e = .returned (.bool SA) ∧ Below w'.heap.size w' w'') := CB
  clear CA CB
  go_wp2
  go_cut [59] (fun s59 wc => s59 = .bool false ∧ Below W5.heap.size W5 wc)
  case first =>
    go_region_held3 (fun w' => w'.cell? ⟨w1.heap.size, 0, none⟩ = some (.slice oa N cap) ∧ w'.cell? ⟨w3.heap.size, 0, none⟩ = some (.slice oa' N cap')) (go_keep)
      (first
        | (go_at_call 8; refine (HCA.out _ (by first | exact Below.refl _ _ | exact (Below.refl _ _).drew | exact below_drewN (Below.refl _ _) _)).mono ?_; rintro e w6 ⟨rfl, hb6⟩; have d1 := (hb6.cell (p := ⟨w1.heap.size, 0, none⟩) y1).trans c1; have d3 := (hb6.cell (p := ⟨w3.heap.size, 0, none⟩) y3).trans c3; have B6 : Below W5.heap.size W5 w6 := ⟨hb6.os, hb6.tape, hb6.output, hb6.size, hb6.block⟩)
        | (go_at_call 9; refine (HCB.out _ (by first | exact B6 | exact B6.drew | exact below_drewN B6 _)).mono ?_; rintro e w7 ⟨rfl, hb7⟩; have y16 : w1.heap.size < w6.heap.size := Nat.lt_of_lt_of_le y1 B6.size; have y36 : w3.heap.size < w6.heap.size := Nat.lt_of_lt_of_le y3 B6.size; have e1 := (hb7.cell (p := ⟨w1.heap.size, 0, none⟩) y16).trans d1; have e3 := (hb7.cell (p := ⟨w3.heap.size, 0, none⟩) y36).trans d3; have B7 : Below W5.heap.size W5 w7 := B6.trans (Below.mono ⟨hb7.os, hb7.tape, hb7.output, hb7.size, hb7.block⟩ B6.size)))
    all_goals
      go_wp2
      go_meet
      case rel => exact ⟨by first | rfl | simp, by first | exact B7 | exact B7.drew | exact below_drewN B7 _⟩
  case rest =>
    obtain ⟨rfl, hbc⟩ := hcut
    clear HCA HCB HSA
    have c1' : wc.cell? ⟨w1.heap.size, 0, none⟩ = some (.slice oa N cap) := (hbc.cell (p := ⟨w1.heap.size, 0, none⟩) y1).trans c1
    have c3' : wc.cell? ⟨w3.heap.size, 0, none⟩ = some (.slice oa' N cap') := (hbc.cell (p := ⟨w3.heap.size, 0, none⟩) y3).trans c3
    obtain ⟨W8, hW8⟩ : ∃ W8, W8 = wc := ⟨_, rfl⟩
    rw [← hW8] at hbc c1' c3' ⊢
    clear hW8 c1 c3
    have BW8 : Below w.heap.size w W8 := BW5.trans (hbc.mono BW5.size)
    have HA1 : Hid (∀ w', Below W8.heap.size W8 w' → NodesAt w' oa gb 0 N q (gd G)) := fun w' hb => HG1.out w' (hbc.trans (hb.mono hbc.size))
    have HA2 : Hid (∀ w', Below W8.heap.size W8 w' → NodesAt w' oa' gb' 0 N q' (gd G)) := fun w' hb => HG2.out w' (hbc.trans (hb.mono hbc.size))
    have x1 : w1.heap.size < W8.heap.size := World.block_lt_of_cell? _ _ c1'
    have x3 : w3.heap.size < W8.heap.size := World.block_lt_of_cell? _ _ c3'
    clear hbc HG1 HG2 y1 y3 BW5
    obtain ⟨M, hM⟩ : ∃ M, M = N * N := ⟨_, rfl⟩
    have HMM : Hid (M = N * N) := hM
    have hMl : M ≤ 3600 := by rw [hM]; exact Nat.mul_le_mul h60 h60
    have hM0 : 0 < M := by rw [hM]; exact Nat.mul_pos (by omega) (by omega)
    clear hM
    obtain ⟨F1, hF1⟩ : ∃ F1 : Nat → Bool, F1 = fun t => SB (t / N) (t % N) := ⟨_, rfl⟩
    obtain ⟨F2, hF2⟩ : ∃ F2 : Nat → Bool, F2 = fun t => MB (t / N) (t % N) := ⟨_, rfl⟩
    have HF1 : Hid (∀ x y, y < N → F1 (x * N + y) = SB x y) := fun x y hy => by rw [hF1]; exact flat SB hy
    have HF2 : Hid (∀ x y, y < N → F2 (x * N + y) = MB x y) := fun x y hy => by rw [hF2]; exact flat MB hy
    clear hF1 hF2
    obtain ⟨i4, hy0, hy1, hy2, hy3⟩ := info_parts Tryz.infoBool
    have ST := own3_start W8 F1 F2 (fun _ => false)
    have hN60 := h60
    have HIX : Hid (∀ i, i ≤ N → i * N ≤ 3600) := fun i hi => Nat.mul_le_mul (Nat.le_trans hi h60) h60
    go_wp2
    go_loopw [10, 11, 12, 13] (fun v1 v2 v3 s13 wr => ∃ (i S : Nat) (US : Nat → Bool), i ≤ N ∧ s13 = .int .i64 i ∧ Own3 W8 wr v1 v2 v3 S S i F1 F2 US ∧ Hid (S = i * N ∧ ∀ t, t < i → US t = true → NoAny (gd G) t)) (fun _ _ _ s13 _ => N - (intOf s13).toNat)
    case atStart => exact ⟨0, 0, fun _ => false, Nat.zero_le _, rfl, ST, ⟨by simp, fun t ht => absurd ht (Nat.not_lt_zero _)⟩⟩
    case round =>
      obtain ⟨i, S, US, hi, rfl, hO, HU⟩ := hrel
      clear ST
      obtain ⟨a1, k1, rfl⟩ := own_form hO.o1
      obtain ⟨a2, k2, rfl⟩ := own_form hO.o2
      obtain ⟨a3, k3, rfl⟩ := own_form hO.o3
      have hS := HIX.out i hi
      have hS' : S ≤ 3600 := by rw [HU.out.1]; exact hS
      clear hS
      have hbr := hO.below
      have hbs := hbr.size
      have g1 : wr.cell? ⟨w1.heap.size, 0, none⟩ = some (.slice oa N cap) := (hbr.cell (p := ⟨w1.heap.size, 0, none⟩) x1).trans c1'
      have g3 : wr.cell? ⟨w3.heap.size, 0, none⟩ = some (.slice oa' N cap') := (hbr.cell (p := ⟨w3.heap.size, 0, none⟩) x3).trans c3'
      by_cases hlt : i < N
      case pos =>
        have li : (i : Int) < (N : Int) := by omega
        go_wp2_with fail
        refine (l_noAny oa' gb' 0 N cap' q' (gd G) i wr (HA2.out wr hbr) (kids_of HV.out) HNK.out (by omega) hlt).mono ?_
        rintro e w6 ⟨r, rfl, hr, hb6⟩
        have HO6 := hO.later hb6
        have hz6 := hb6.size
        have O36 := HO6.o3
        have HR : Hid (r = true → NoAny (gd G) i) := hr
        clear hr
        go_wp2_with (first | (at_builtin; refine wpList_append_lies _ rfl _ _ 30 rfl W8.heap.size 4 i4 _ 1 1 Tryz.underlying30 hy0 hy1 hy2 hy3 rfl (by omega) (.slice a3 i k3) (i) (bl US (i)) rfl (O36.alloc _) ⟨w6.heap.size, 0, none⟩ 1 1 [.bool r] rfl rfl (cell_one_new _ _ _) (by simp [Value.oneCell']) (by omega) (by unfold maxLen; omega) (by omega) (by simp; omega) (w6.heap.size + 1) (by simp) ?_; intro gg cap7 w7 hown7 hg7 hat7 hlt7))
        have HO7 : Hid (Own3 W8 w7 (.slice a1 S k1) (.slice a2 S k2) (.slice (some ⟨gg, 0, none⟩) (i + 1) cap7) S S (i + 1) F1 F2 (fun t => if t = i then r else US t)) := by
          have e := own3_us (g3 := fun t => if t = i then r else US t) HO6 (fun t ht => by rw [if_neg (by omega)])
          refine (Own3.push e.swap13 (r := r) (by rw [if_pos rfl]) ?_ hg7 hat7).swap13
          rw [bl_congr (g := US) (fun t ht => by rw [if_neg (by omega)])]
          exact hown7
        have HU7 : Hid (∀ t, t < i + 1 → (fun t => if t = i then r else US t) t = true → NoAny (gd G) t) := fun t ht hu => by
          by_cases e : t = i
          · subst e; simp at hu; exact HR.out hu
          · simp [e] at hu; exact HU.out.2 t (by omega) hu
        obtain ⟨UT, hUT⟩ : ∃ UT : Nat → Bool, UT = fun t => if t = i then r else US t := ⟨_, rfl⟩
        rw [← hUT] at HO7 HU7
        have HSS : Hid (S = i * N) := HU.out.1
        clear hUT hown7 hg7 hat7 O36 HO6 hO HU hb6 HR g1 g3 hbr
        go_wp2
        go_loopw [10, 11, 14] (fun v1 v2 s14 wx => ∃ j : Nat, j ≤ N ∧ s14 = .int .i64 j ∧ Own3 W8 wx v1 v2 (.slice (some ⟨gg, 0, none⟩) (i + 1) cap7) (S + j) (S + j) (i + 1) F1 F2 UT) (fun _ _ s14 _ => N - (intOf s14).toNat)
        case atStart => exact ⟨0, Nat.zero_le _, rfl, HO7.out⟩
        case round =>
          rename World => wx
          obtain ⟨j, hj, rfl, hP⟩ := hrel
          clear HO7
          obtain ⟨a4, k4, rfl⟩ := own_form hP.o1
          obtain ⟨a5, k5, rfl⟩ := own_form hP.o2
          have hbx := hP.below
          have hbxs := hbx.size
          have g1 : wx.cell? ⟨w1.heap.size, 0, none⟩ = some (.slice oa N cap) := (hbx.cell (p := ⟨w1.heap.size, 0, none⟩) x1).trans c1'
          by_cases hjl : j < N
          case pos =>
            have lj : (j : Int) < (N : Int) := by omega
            go_wp2_with fail
            refine (sub_call (SB := SB) oa gb 0 cap q i j wx (HA1.out wx hbx) HNK.out HNN.out HV.out HSB.out hlt hjl).mono ?_
            rintro e w8 ⟨rfl, hb8⟩
            have HP8 := hP.later hb8
            have hz8 := hb8.size
            have O8 := HP8.o1
            obtain ⟨s, hs⟩ : ∃ s, s = SB i j := ⟨_, rfl⟩
            have HS8 : Hid (F1 (S + j) = s) := by show F1 (S + j) = s; rw [hs, HSS.out]; exact HF1.out i j hjl
            rw [← hs]
            clear hs
            go_wp2_with
              (first
              | (at_builtin; refine wpList_append_lies _ rfl _ _ 30 rfl W8.heap.size 4 i4 _ 1 1 Tryz.underlying30 hy0 hy1 hy2 hy3 rfl (by omega) (.slice a4 (S + j) k4) ((S + j)) (bl F1 ((S + j))) rfl (O8.alloc _) ⟨w8.heap.size, 0, none⟩ 1 1 [.bool s] rfl rfl (cell_one_new _ _ _) (by simp [Value.oneCell']) (by omega) (by unfold maxLen; omega) (by omega) (by simp; omega) (w8.heap.size + 1) (by simp) ?_; intro gg8 cap8 w9 hown9 hg9 hat9 hlt9; have HP9 : Own3 W8 w9 (.slice (some ⟨gg8, 0, none⟩) (S + j + 1) cap8) (.slice a5 (S + j) k5) (.slice (some ⟨gg, 0, none⟩) (i + 1) cap7) (S + j + 1) (S + j) (i + 1) F1 F2 UT := Own3.push HP8 HS8.out hown9 hg9 hat9; have hb9 := HP9.below; have hbs9 := hb9.size; have g19 : w9.cell? ⟨w1.heap.size, 0, none⟩ = some (.slice oa N cap) := (hb9.cell (p := ⟨w1.heap.size, 0, none⟩) x1).trans c1'))
            clear hown9 hg9 hat9 O8 HP8 hP hbx hb8 g1 HS8
            refine (same_call (MB := MB) oa gb 0 cap q i j w9 (HA1.out w9 hb9) HNK.out HV.out HMB.out hlt hjl).mono ?_
            rintro e w10 ⟨rfl, hb10⟩
            have HP10 := HP9.later hb10
            have hz10 := hb10.size
            have O10 := HP10.o2
            obtain ⟨s2, hs2⟩ : ∃ s, s = MB i j := ⟨_, rfl⟩
            have HS10 : Hid (F2 (S + j) = s2) := by show F2 (S + j) = s2; rw [hs2, HSS.out]; exact HF2.out i j hjl
            rw [← hs2]
            clear hs2
            go_wp2_with
              (first
              | (at_builtin; refine wpList_append_lies _ rfl _ _ 30 rfl W8.heap.size 4 i4 _ 1 1 Tryz.underlying30 hy0 hy1 hy2 hy3 rfl (by omega) (.slice a5 (S + j) k5) ((S + j)) (bl F2 ((S + j))) rfl (O10.alloc _) ⟨w10.heap.size, 0, none⟩ 1 1 [.bool s2] rfl rfl (cell_one_new _ _ _) (by simp [Value.oneCell']) (by omega) (by unfold maxLen; omega) (by omega) (by simp; omega) (w10.heap.size + 1) (by simp) ?_; intro gg11 cap11 w11 hown11 hg11 hat11 hlt11))
            have HP11 : Hid (Own3 W8 w11 (.slice (some ⟨gg8, 0, none⟩) (S + (j + 1)) cap8) (.slice (some ⟨gg11, 0, none⟩) (S + (j + 1)) cap11) (.slice (some ⟨gg, 0, none⟩) (i + 1) cap7) (S + (j + 1)) (S + (j + 1)) (i + 1) F1 F2 UT) := (Own3.push HP10.swap12 HS10.out hown11 hg11 hat11).swap12
            clear hown11 hg11 hat11 O10 HP10 HP9 hb9 hb10 g19 HS10
            go_wp2
            go_roundw
            case rel => exact ⟨j + 1, by omega, by go_num, HP11.out⟩
            case measure => simp [intOf]; omega
          have hjN : j = N := by omega
          have HPE : Hid (Own3 W8 wx (.slice a4 (S + j) k4) (.slice a5 (S + j) k5) (.slice (some ⟨gg, 0, none⟩) (i + 1) cap7) (S + j) (S + j) (i + 1) F1 F2 UT) := hP
          have HSE : Hid (S + j = (i + 1) * N) := by show S + j = (i + 1) * N; rw [HSS.out, hjN, Nat.succ_mul]
          have qj : ¬ (j : Int) < (N : Int) := by omega
          clear hP hjN hjl g1 hbx
          go_wp2
          go_roundw
          case rel => exact ⟨i + 1, S + j, UT, by omega, by go_num, HPE.out, ⟨HSE.out, HU7.out⟩⟩
          case measure => simp [intOf]; omega
      have hin : i = N := by omega
      have hSM : S = M := by rw [HU.out.1, hin, HMM.out]
      have HSL : Hid (SubLaws N SB MB US) := sub_laws HV.out HSB.out HMB.out (fun t ht hu => HU.out.2 t (by omega) hu)
      obtain ⟨r1, e1, e1v, R1⟩ := own3_read hO.o1 (by omega)
      obtain ⟨r2, e2, e2v, R2⟩ := own3_read hO.o2 (by omega)
      obtain ⟨r3, e3, e3v, R3⟩ := own3_read hO.o3 (by omega)
      rw [e1v, e2v, e3v, hSM, hin]
      have HR1 : Hid (∀ w', Below wr.heap.size wr w' → ∀ x y AT, x < N → y < N → AT = x * N + y → AT < M → w'.cell? ⟨r1, AT, none⟩ = some (.bool (SB x y))) := fun w' hb x y AT hx hy hA hAM => by rw [R1 w' hb AT (by omega), hA, HF1.out x y hy]
      have HR2 : Hid (∀ w', Below wr.heap.size wr w' → ∀ x y AT, x < N → y < N → AT = x * N + y → AT < M → w'.cell? ⟨r2, AT, none⟩ = some (.bool (MB x y))) := fun w' hb x y AT hx hy hA hAM => by rw [R2 w' hb AT (by omega), hA, HF2.out x y hy]
      have HR3 : Hid (∀ w', Below wr.heap.size wr w' → ∀ x, x < N → w'.cell? ⟨r3, x, none⟩ = some (.bool (US x))) := fun w' hb x hx => R3 w' hb x (by omega)
      have HBW : Hid (Below w.heap.size w wr) := BW8.trans (hbr.mono BW8.size)
      clear hO HU hbr g1 g3 R1 R2 R3 e1v e2v e3v hSM hi hlt
      obtain ⟨W9, hW9⟩ : ∃ W9, W9 = wr := ⟨_, rfl⟩
      rw [← hW9] at HR1 HR2 HR3 HBW ⊢
      clear hW9 hin HF1 HF2 HSB HMB HA1 HA2
      go_wp2
      go_loopw [15] (fun s15 wx => ∃ i : Nat, i ≤ N ∧ s15 = .int .i64 i ∧ Below W9.heap.size W9 wx) (fun s15 _ => N - (intOf s15).toNat)
      case atStart => exact ⟨0, Nat.zero_le _, rfl, Below.refl _ _⟩
      case round =>
        rename World => wx
        obtain ⟨i, hi, rfl, hbx⟩ := hrel
        by_cases hlt : i < N
        case neg =>
          have qi : ¬ (i : Int) < (N : Int) := by omega
          have BF := HBW.out.trans (hbx.mono HBW.out.size)
          clear hbx
          go_wp2
          go_ret
          exact ⟨rfl, BF⟩
        have li : (i : Int) < (N : Int) := by omega
        obtain ⟨II, hII, eII, lII, mII, nII⟩ := idx HMM.out h60 hlt hlt
        have cs := HR1.out wx hbx i i II hlt hlt hII lII
        have cm := HR2.out wx hbx i i II hlt hlt hII lII
        rw [(HSL.out.refl i hlt).1] at cs
        rw [(HSL.out.refl i hlt).2] at cm
        have lII' : (II : Int) < (M : Int) := by omega
        clear hII
        go_wp2
        go_loopw [16] (fun s16 wy => ∃ j : Nat, j ≤ N ∧ s16 = .int .i64 j ∧ Below W9.heap.size W9 wy) (fun s16 _ => N - (intOf s16).toNat)
        case atStart => exact ⟨0, Nat.zero_le _, rfl, by first | exact hbx | exact hbx.drew | exact below_drewN hbx _⟩
        case round =>
          clear cs cm hbx eII lII lII' mII nII
          rename World => wy
          obtain ⟨j, hj, rfl, hby⟩ := hrel
          by_cases hjl : j < N
          case neg =>
            have qj : ¬ (j : Int) < (N : Int) := by omega
            go_wp2
            go_roundw
            case rel => exact ⟨i + 1, by omega, by go_num, hby⟩
            case measure => simp [intOf]; omega
          have lj : (j : Int) < (N : Int) := by omega
          obtain ⟨IJ, hIJ, eIJ, lIJ, mIJ, nIJ⟩ := idx HMM.out h60 hlt hjl
          have lIJ' : (IJ : Int) < (M : Int) := by omega
          have HIJ1 : Hid (∀ w', Below W9.heap.size W9 w' → w'.cell? ⟨r1, IJ, none⟩ = some (.bool (SB i j))) := fun w' hb => HR1.out w' hb i j IJ hlt hjl hIJ lIJ
          have HIJ2 : Hid (∀ w', Below W9.heap.size W9 w' → w'.cell? ⟨r2, IJ, none⟩ = some (.bool (MB i j))) := fun w' hb => HR2.out w' hb i j IJ hlt hjl hIJ lIJ
          clear hIJ
          have HTR : Hid (∀ k, k < N → US i = true → US j = true → US k = true → SB i j = true → SB j k = true → SB i k = true) := fun k hk => HSL.out.trans i j k hlt hjl hk
          cases hmb : MB i j
          case false =>
            have HMBT : Hid (MB i j = false) := hmb
            have cm := HIJ2.out wy hby
            have cs := HIJ1.out wy hby
            rw [hmb] at cm
            clear hmb
            go_wp2
            go_loopw [17] (fun s17 wz => ∃ k : Nat, k ≤ N ∧ s17 = .int .i64 k ∧ Below W9.heap.size W9 wz) (fun s17 _ => N - (intOf s17).toNat)
            case atStart => exact ⟨0, Nat.zero_le _, rfl, by first | exact hby | exact hby.drew | exact below_drewN hby _⟩
            case round =>
              clear cm cs hby
              rename World => wz
              obtain ⟨k, hk, rfl, hbz⟩ := hrel
              by_cases hkl : k < N
              case neg =>
                have qk : ¬ (k : Int) < (N : Int) := by omega
                go_wp2
                go_roundw
                case rel => exact ⟨j + 1, by omega, by go_num, hbz⟩
                case measure => simp [intOf]; omega
              have lk : (k : Int) < (N : Int) := by omega
              obtain ⟨IK, hIK, eIK, lIK, mIK, nIK⟩ := idx HMM.out h60 hlt hkl
              obtain ⟨JK, hJK, eJK, lJK, mJK, nJK⟩ := idx HMM.out h60 hjl hkl
              obtain ⟨KI, hKI, eKI, lKI, mKI, nKI⟩ := idx HMM.out h60 hkl hlt
              obtain ⟨KJ, hKJ, eKJ, lKJ, mKJ, nKJ⟩ := idx HMM.out h60 hkl hjl
              have dij1 := HIJ1.out wz hbz
              have dij2 := HIJ2.out wz hbz
              have dik := HR1.out wz hbz i k IK hlt hkl hIK lIK
              have djk := HR1.out wz hbz j k JK hjl hkl hJK lJK
              have dki := HR1.out wz hbz k i KI hkl hlt hKI lKI
              have dkj := HR1.out wz hbz k j KJ hkl hjl hKJ lKJ
              have ui := HR3.out wz hbz i hlt
              have uj := HR3.out wz hbz j hjl
              have uk := HR3.out wz hbz k hkl
              have tr := HTR.out k hkl
              rw [HMBT.out] at dij2
              have lIK' : (IK : Int) < (M : Int) := by omega
              have lJK' : (JK : Int) < (M : Int) := by omega
              have lKI' : (KI : Int) < (M : Int) := by omega
              have lKJ' : (KJ : Int) < (M : Int) := by omega
              clear hIK hJK hKI hKJ
              obtain ⟨sik, hsik⟩ : ∃ s, s = SB i k := ⟨_, rfl⟩
              obtain ⟨ski, hski⟩ : ∃ s, s = SB k i := ⟨_, rfl⟩
              obtain ⟨sjk, hsjk⟩ : ∃ s, s = SB j k := ⟨_, rfl⟩
              obtain ⟨sij, hsij⟩ : ∃ s, s = SB i j := ⟨_, rfl⟩
              rw [← hsik] at dik tr
              rw [← hsjk] at djk tr
              rw [← hsij] at dij1 tr
              clear hsik hski hsjk hsij dki dkj
              obtain ⟨vi, hvi⟩ : ∃ s, s = US i := ⟨_, rfl⟩
              rw [← hvi] at ui tr
              clear hvi
              obtain ⟨vj, hvj⟩ : ∃ s, s = US j := ⟨_, rfl⟩
              rw [← hvj] at uj tr
              clear hvj
              obtain ⟨vk, hvk⟩ : ∃ s, s = US k := ⟨_, rfl⟩
              rw [← hvk] at uk tr
              clear hvk
              cases vi
              case false =>
                clear tr
                as_aux_lemma =>
                  go_wp2
                  go_quiet (fail)
                  go_wp2
                  go_roundw
                  case rel => exact ⟨k + 1, by omega, by go_num, by first | exact hbz | exact hbz.drew | exact below_drewN hbz _⟩
                  case measure => simp [intOf]; omega
              cases vj
              case false =>
                clear tr
                as_aux_lemma =>
                  go_wp2
                  go_quiet (fail)
                  go_wp2
                  go_roundw
                  case rel => exact ⟨k + 1, by omega, by go_num, by first | exact hbz | exact hbz.drew | exact below_drewN hbz _⟩
                  case measure => simp [intOf]; omega
              cases vk
              case false =>
                clear tr
                as_aux_lemma =>
                  go_wp2
                  go_quiet (fail)
                  go_wp2
                  go_roundw
                  case rel => exact ⟨k + 1, by omega, by go_num, by first | exact hbz | exact hbz.drew | exact below_drewN hbz _⟩
                  case measure => simp [intOf]; omega
              cases sij
              case false =>
                clear tr
                as_aux_lemma =>
                  go_wp2
                  go_quiet (fail)
                  go_wp2
                  go_roundw
                  case rel => exact ⟨k + 1, by omega, by go_num, by first | exact hbz | exact hbz.drew | exact below_drewN hbz _⟩
                  case measure => simp [intOf]; omega
              cases sjk
              case false =>
                clear tr
                as_aux_lemma =>
                  go_wp2
                  go_quiet (fail)
                  go_wp2
                  go_roundw
                  case rel => exact ⟨k + 1, by omega, by go_num, by first | exact hbz | exact hbz.drew | exact below_drewN hbz _⟩
                  case measure => simp [intOf]; omega
              have esik : sik = true := tr rfl rfl rfl rfl rfl
              subst esik
              clear tr
              as_aux_lemma =>
                go_wp2
                go_quiet (fail)
                go_wp2
                go_roundw
                case rel => exact ⟨k + 1, by omega, by go_num, by first | exact hbz | exact hbz.drew | exact below_drewN hbz _⟩
                case measure => simp [intOf]; omega
          have HMBT : Hid (MB i j = true) := hmb
          have HSIJ : Hid (SB i j = true) := HSL.out.sub i j hlt hjl hmb
          have cm := HIJ2.out wy hby
          have cs := HIJ1.out wy hby
          rw [hmb] at cm
          rw [HSIJ.out] at cs
          clear hmb
          go_wp2
          go_loopw [17] (fun s17 wz => ∃ k : Nat, k ≤ N ∧ s17 = .int .i64 k ∧ Below W9.heap.size W9 wz) (fun s17 _ => N - (intOf s17).toNat)
          case atStart => exact ⟨0, Nat.zero_le _, rfl, by first | exact hby | exact hby.drew | exact below_drewN hby _⟩
          case round =>
            clear cm cs hby
            rename World => wz
            obtain ⟨k, hk, rfl, hbz⟩ := hrel
            by_cases hkl : k < N
            case neg =>
              have qk : ¬ (k : Int) < (N : Int) := by omega
              go_wp2
              go_roundw
              case rel => exact ⟨j + 1, by omega, by go_num, hbz⟩
              case measure => simp [intOf]; omega
            have lk : (k : Int) < (N : Int) := by omega
            obtain ⟨IK, hIK, eIK, lIK, mIK, nIK⟩ := idx HMM.out h60 hlt hkl
            obtain ⟨JK, hJK, eJK, lJK, mJK, nJK⟩ := idx HMM.out h60 hjl hkl
            obtain ⟨KI, hKI, eKI, lKI, mKI, nKI⟩ := idx HMM.out h60 hkl hlt
            obtain ⟨KJ, hKJ, eKJ, lKJ, mKJ, nKJ⟩ := idx HMM.out h60 hkl hjl
            have dij1 := HIJ1.out wz hbz
            have dij2 := HIJ2.out wz hbz
            have dik := HR1.out wz hbz i k IK hlt hkl hIK lIK
            have djk := HR1.out wz hbz j k JK hjl hkl hJK lJK
            have dki := HR1.out wz hbz k i KI hkl hlt hKI lKI
            have dkj := HR1.out wz hbz k j KJ hkl hjl hKJ lKJ
            have ui := HR3.out wz hbz i hlt
            have uj := HR3.out wz hbz j hjl
            have uk := HR3.out wz hbz k hkl
            have tr := HTR.out k hkl
            obtain ⟨cg1, cg2⟩ := HSL.out.cong i j k hlt hjl hkl HMBT.out
            rw [← cg1] at djk tr
            rw [← cg2] at dkj
            clear cg1 cg2
            rw [HMBT.out] at dij2
            rw [HSIJ.out] at dij1 tr
            have lIK' : (IK : Int) < (M : Int) := by omega
            have lJK' : (JK : Int) < (M : Int) := by omega
            have lKI' : (KI : Int) < (M : Int) := by omega
            have lKJ' : (KJ : Int) < (M : Int) := by omega
            clear hIK hJK hKI hKJ
            obtain ⟨sik, hsik⟩ : ∃ s, s = SB i k := ⟨_, rfl⟩
            obtain ⟨ski, hski⟩ : ∃ s, s = SB k i := ⟨_, rfl⟩
            rw [← hsik] at dik djk tr
            rw [← hski] at dki dkj
            clear hsik hski
            obtain ⟨vi, hvi⟩ : ∃ s, s = US i := ⟨_, rfl⟩
            rw [← hvi] at ui tr
            clear hvi
            obtain ⟨vj, hvj⟩ : ∃ s, s = US j := ⟨_, rfl⟩
            rw [← hvj] at uj tr
            clear hvj
            obtain ⟨vk, hvk⟩ : ∃ s, s = US k := ⟨_, rfl⟩
            rw [← hvk] at uk tr
            clear hvk
            cases vi
            case false =>
              clear tr
              as_aux_lemma =>
                go_wp2
                go_quiet (fail)
                go_wp2
                go_roundw
                case rel => exact ⟨k + 1, by omega, by go_num, by first | exact hbz | exact hbz.drew | exact below_drewN hbz _⟩
                case measure => simp [intOf]; omega
            cases vj
            case false =>
              clear tr
              as_aux_lemma =>
                go_wp2
                go_quiet (fail)
                go_wp2
                go_roundw
                case rel => exact ⟨k + 1, by omega, by go_num, by first | exact hbz | exact hbz.drew | exact below_drewN hbz _⟩
                case measure => simp [intOf]; omega
            cases vk
            case false =>
              clear tr
              as_aux_lemma =>
                go_wp2
                go_quiet (fail)
                go_wp2
                go_roundw
                case rel => exact ⟨k + 1, by omega, by go_num, by first | exact hbz | exact hbz.drew | exact below_drewN hbz _⟩
                case measure => simp [intOf]; omega
            cases sik
            case false =>
              clear tr
              as_aux_lemma =>
                go_wp2
                go_quiet (fail)
                go_wp2
                go_roundw
                case rel => exact ⟨k + 1, by omega, by go_num, by first | exact hbz | exact hbz.drew | exact below_drewN hbz _⟩
                case measure => simp [intOf]; omega
            clear tr
            as_aux_lemma =>
              go_wp2
              go_quiet (fail)
              go_wp2
              go_roundw
              case rel => exact ⟨k + 1, by omega, by go_num, by first | exact hbz | exact hbz.drew | exact below_drewN hbz _⟩
              case measure => simp [intOf]; omega

end Go.Proofs.YtoanhnmpkonbfaaGreatDoor
