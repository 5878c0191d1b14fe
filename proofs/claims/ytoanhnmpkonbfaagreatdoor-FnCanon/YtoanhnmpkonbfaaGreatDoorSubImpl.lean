/-
  The program's Sub.
-/
import Derived.Test.YtoanhnmpkonbfaaGreatDoorMG
namespace Go.Proofs.YtoanhnmpkonbfaaGreatDoor
open Go.RowKit Go.Maps

theorem srt_G2 {N : Nat} {G : Nat → ND} {cl : Nat → Nat} {S : List Nat} (hS : ∀ s, s ∈ S → s < N) (hP : ∀ x, x < N → Srt (G x)) : ∀ x, x < S.length → Srt (G2 G cl S x) := fun _ hx => hP _ (hS _ (getD_mem hx))
theorem nn_G2 {N : Nat} {G : Nat → ND} {cl : Nat → Nat} {S : List Nat} (hS : ∀ s, s ∈ S → s < N) (hP : ∀ x, x < N → (G x).nn ≤ 1048576) : ∀ x, x < S.length → (G2 G cl S x).nn ≤ 1048576 := fun _ hx => hP _ (hS _ (getD_mem hx))
theorem len_all {N : Nat} {G : Nat → ND} {cl ns : Nat → Nat} {R : Nat} (hK : Kids N G) (hn : ∀ i, i < R → ns i < N) : (allTill G cl (N + 1) ns [] R).length ≤ N := by
  have := allTill_ok (G := G) (cl := cl) hK (f := N + 1) (ns := ns) (st := []) (m := R) hn (by rw [List.length_nil]; have := miss_le N cl []; omega) (by have := miss_le N cl []; omega) R (Nat.le_refl _)
  have := this.1
  omega

/-- What the smallest graph keeps. -/
theorem small_keeps {N R : Nat} {G : Nat → ND} {ns cl : Nat → Nat} (hK : Kids N G) (hP : ∀ x, x < N → Plain (G x)) (hS : ∀ x, x < N → Srt (G x)) (hn : ∀ x, x < N → (G x).nn ≤ 1048576) (hns : ∀ i, i < R → ns i < N) {S : List Nat} (hSe : S = allTill (G1 N R G ns) cl ((S1 N R G ns).length + 1) (ns1 N R G ns) [] R) :
    Kids S.length (G2 (G1 N R G ns) cl S) ∧ (∀ x, x < S.length → Plain (G2 (G1 N R G ns) cl S x)) ∧ (∀ x, x < S.length → Srt (G2 (G1 N R G ns) cl S x)) ∧ (∀ x, x < S.length → (G2 (G1 N R G ns) cl S x).nn ≤ 1048576) ∧ S.length ≤ N ∧ ∀ i, i < R → numOf cl S (ns1 N R G ns i) < S.length := by
  subst hSe
  obtain ⟨f1, f2, f3⟩ := allTill_full (G := G) (cl := fun i => i) hK (f := N + 1) (ns := ns) (m := R) hns (by omega) R (Nat.le_refl _)
  have K1 : Kids (S1 N R G ns).length (G1 N R G ns) := kids_G2 f3
  have n1 : ∀ i, i < R → ns1 N R G ns i < (S1 N R G ns).length := fun i hi => numOf_lt (f2 i hi)
  obtain ⟨g1, g2, g3⟩ := allTill_full (G := G1 N R G ns) (cl := cl) K1 (f := (S1 N R G ns).length + 1) (ns := ns1 N R G ns) (m := R) n1 (by omega) R (Nat.le_refl _)
  exact ⟨kids_G2 g3, plain_G2 g1 (plain_G2 f1 hP), srt_G2 g1 (srt_G2 f1 hS), nn_G2 g1 (nn_G2 f1 hn), Nat.le_trans (len_all K1 n1) (len_all hK hns), fun i hi => numOf_lt (g2 i hi)⟩

structure SubAns (N : Nat) (G : Nat → ND) (a b : Int) : Prop where
  valid : vgr N G = true
  a0 : 0 ≤ a
  a1 : a < N
  b0 : 0 ≤ b
  b1 : b < N
  sub : SubP G a.toNat b.toNat

def SubPost (N : Nat) (G : Nat → ND) (a b : Int) (w : World) (e : Ending) (w' : World) : Prop :=
  ((e = .returned (.bool false) ∧ ¬ SubAns N G a b) ∨ (e = .returned (.bool true) ∧ SubAns N G a b)) ∧ Below w.heap.size w w'

theorem vgr_len {N : Nat} {G : Nat → ND} (h : vgr N G = true) : N ≤ 4000 := by
  unfold vgr at h
  rw [Bool.and_eq_true] at h
  exact of_decide_eq_true h.1

theorem kids_of {N : Nat} {G : Nat → ND} (h : vgr N G = true) : Kids N G := fun i hi j hj => by
  unfold vgr at h
  rw [Bool.and_eq_true] at h
  have := allTo_get h.2 hi
  unfold nok at this
  rw [Bool.and_eq_true] at this
  exact of_decide_eq_true (allTo_get this.2 hj)

theorem kok2 {N : Nat} {a b : Int} {D : Nat → Int} (h0 : D 0 = a) (h1 : D 1 = b) : kok 2 D N = true ↔ ((0 ≤ a ∧ a < N) ∧ (0 ≤ b ∧ b < N)) := by
  constructor
  · intro h
    have r0 := of_decide_eq_true (allTo_get h (j := 0) (by omega))
    have r1 := of_decide_eq_true (allTo_get h (j := 1) (by omega))
    rw [h0] at r0; rw [h1] at r1
    exact ⟨r0, r1⟩
  · rintro ⟨h2, h3⟩
    refine allTo_true (fun j hj => ?_)
    match j, hj with
    | 0, _ => exact decide_eq_true (by rw [h0]; exact h2)
    | 1, _ => exact decide_eq_true (by rw [h1]; exact h3)

set_option maxRecDepth 100000 in
set_option maxHeartbeats 8000000 in
theorem w8 (ao : Option Addr) (gb go N gc : Nat) (p : Nat → NP) (G : Nat → ND) (a b : Int) (w : World) (h1 : NodesAt w ao gb go N p G) (hnk : ∀ i, i < N → (G i).nk ≤ 1048576) (hnn : ∀ i, i < N → (G i).nn ≤ 1048576) :
    Calls Tryz.prog 8 #[.agg #[.slice ao N gc], .int .i64 a, .int .i64 b] w (SubPost N G a b w) := by
  have HB : Hid (∀ w', Below w.heap.size w w' → NodesAt w' ao gb go N p G) := fun w' hb => h1.below hb
  have HNK : Hid (∀ i, i < N → (G i).nk ≤ 1048576) := hnk
  have HNN : Hid (∀ i, i < N → (G i).nn ≤ 1048576) := hnn
  have hlen := h1.len
  clear h1 hnk hnn
  go_enter Tryz.func8, Tryz.ntmps8
  go_wp2_with fail
  refine (g14 ao gb go N gc p G _ (by exact HB.out _ (bel1 _ _))).mono ?_
  rintro e w1 ⟨rfl, hb1⟩
  have B1 : Below w.heap.size w w1 := (bel1 w _).trans (hb1.mono (by simp))
  have k1 : w1.cell? ⟨w.heap.size, 0, none⟩ = some (.slice ao N gc) := by rw [hb1.cell (p := ⟨w.heap.size, 0, none⟩) (by simp)]; simp
  have z1 : w.heap.size < w1.heap.size := by have := hb1.size; simp at this; omega
  clear hb1
  cases hv : vgr N G
  · have FIN : Hid (SubPost N G a b w (.returned (.bool false)) w1) := ⟨Or.inl ⟨rfl, fun h => by have := h.valid; rw [hv] at this; cases this⟩, B1⟩
    clear hv
    go_wp2
    go_ret
    exact FIN.out
  have HV : Hid (vgr N G = true) := hv
  clear hv
  have hN := vgr_len HV.out
  go_wp2_with fail
  have R1 := row2 w1 (.int .i64 a) (.int .i64 b) 3
  refine (g15 ao N gc (some ⟨w1.heap.size, 0, none⟩) w1.heap.size 0 2 2 (fun i => if i = 0 then a else b) _ ⟨fun _ => rfl, fun i hi => (by rw [Nat.zero_add, R1.cell hi]; match i, hi with | 0, _ => rfl | 1, _ => rfl), by omega⟩ hlen).mono ?_
  rintro e w2 ⟨rfl, hb2⟩
  have C2 : Below w1.heap.size w1 w2 := (bel1 w1 _).trans (hb2.mono (by simp))
  have B2 : Below w.heap.size w w2 := B1.trans (C2.mono B1.size)
  have k2 : w2.cell? ⟨w.heap.size, 0, none⟩ = some (.slice ao N gc) := (C2.cell (p := ⟨w.heap.size, 0, none⟩) z1).trans k1
  have z2 : w.heap.size < w2.heap.size := by have := C2.size; omega
  have HKK : Hid (kok 2 (fun i => if i = 0 then a else b) N = true ↔ ((0 ≤ a ∧ a < N) ∧ (0 ≤ b ∧ b < N))) := kok2 rfl rfl
  clear hb2 R1 C2 B1 k1 z1
  cases hk : kok 2 (fun i => if i = 0 then a else b) N
  · have FIN : Hid (SubPost N G a b w (.returned (.bool false)) w2) := ⟨Or.inl ⟨rfl, fun h => by have := HKK.out.2 ⟨⟨h.a0, h.a1⟩, ⟨h.b0, h.b1⟩⟩; rw [hk] at this; cases this⟩, B2⟩
    clear hk
    go_wp2
    go_ret
    exact FIN.out
  obtain ⟨⟨a0, a1⟩, b0, b1⟩ := HKK.out.1 hk
  clear hk HKK
  obtain ⟨x, rfl⟩ := Int.eq_ofNat_of_zero_le a0
  obtain ⟨y, rfl⟩ := Int.eq_ofNat_of_zero_le b0
  have hx : x < N := by omega
  have hy : y < N := by omega
  have hN1 : N ≤ 1048576 := by omega
  have R2 := row2 w2 (.int .i64 (x : Int)) (.int .i64 (y : Int)) 3
  have HP : Hid (∀ i, i < N → Plain (G i)) := fun i hi => plain_of (shp_of HV.out hi)
  have HS : Hid (∀ i, i < N → Srt (G i)) := fun i hi => srt_of (shp_of HV.out hi)
  have HK : Hid (Kids N G) := kids_of HV.out
  have HNS : Hid (∀ i, i < 2 → (fun i => if i = 0 then x else y) i < N) := fun i hi => by show (if i = 0 then x else y) < N; split <;> assumption
  have BX : Below w.heap.size w (w2.alloc (.cells #[.int .i64 (x : Int), .int .i64 (y : Int)] 3)) := B2.trans ((bel1 w2 _).mono B2.size)
  go_wp2_with fail
  refine (c25 ao (some ⟨w2.heap.size, 0, none⟩) gc 2 2 w2.heap.size 0 (fun i => if i = 0 then x else y) _ (by omega) (by omega) HK.out HP.out (fun i hi => ⟨HNN.out i hi, fun j hj => short_of (shp_of HV.out hi) hj⟩) HNK.out HNS.out (HB.out _ BX) ⟨fun _ => rfl, fun i hi => (by rw [Nat.zero_add, R2.cell hi]; match i, hi with | 0, _ => rfl | 1, _ => rfl), by omega⟩).mono ?_
  rintro e w3 ⟨cl, hcl, oa, b', cap, p', la, lb, lc, rfl, n3, i3, _, f3, b3⟩
  obtain ⟨S, hSe⟩ : ∃ S, S = allTill (G1 N 2 G (fun i => if i = 0 then x else y)) cl ((S1 N 2 G (fun i => if i = 0 then x else y)).length + 1) (ns1 N 2 G (fun i => if i = 0 then x else y)) [] 2 := ⟨_, rfl⟩
  have SK := small_keeps (cl := cl) HK.out HP.out HS.out HNN.out HNS.out hSe
  have SS := sub_small HK.out HP.out HNS.out hcl (a := 0) (b := 1) (by omega) (by omega)
  rw [← hSe] at SS n3 i3 f3 ⊢
  obtain ⟨H, hH⟩ : ∃ H, H = G2 (G1 N 2 G (fun i => if i = 0 then x else y)) cl S := ⟨_, rfl⟩
  rw [← hH] at SK SS n3 f3
  obtain ⟨u, hu⟩ : ∃ u, u = numOf cl S (ns1 N 2 G (fun i => if i = 0 then x else y) 0) := ⟨_, rfl⟩
  obtain ⟨v, hv⟩ : ∃ v, v = numOf cl S (ns1 N 2 G (fun i => if i = 0 then x else y) 1) := ⟨_, rfl⟩
  rw [← hu, ← hv] at SS
  have SS' : SubP G x y ↔ SubP H u v := SS
  have eL : la = some ⟨lb, 0, none⟩ := i3.at_ (by omega)
  subst eL
  have t0 : w3.cell? ⟨lb, 0, none⟩ = some (.int .i64 (u : Int)) := by rw [hu]; exact i3.cell 0 (by omega)
  have t1 : w3.cell? ⟨lb, 1, none⟩ = some (.int .i64 (v : Int)) := by rw [hv]; have := i3.cell 1 (by omega); rw [Nat.zero_add] at this; exact this
  have lu : u < S.length := by rw [hu]; exact SK.2.2.2.2.2 0 (by omega)
  have lv : v < S.length := by rw [hv]; exact SK.2.2.2.2.2 1 (by omega)
  have B3 : Below w.heap.size w w3 := BX.trans (b3.mono BX.size)
  have C26 : Hid (∀ W, Below w3.heap.size w3 W → Calls Tryz.prog 27 #[.agg #[.slice oa S.length cap], .int .i64 (u : Int), .int .i64 (v : Int)] W (fun e w' => SubPost N G (x : Int) (y : Int) w e w' ∧ Below W.heap.size W w')) := fun W hW => by
    have BB := B3.trans (hW.mono B3.size)
    refine (w26 oa cap (fun k => k < W.heap.size) u v W (fun k hk => hk) (fun w' hk => (n3.below hW).below ⟨hk.os, hk.tape, hk.output, hk.size, hk.block⟩) lu lv SK.1 SK.2.1 SK.2.2.1 (by have := SK.2.2.2.2.1; omega) SK.2.2.2.1).mono ?_
    rintro e w' ⟨hc, hk⟩
    have bk : Below W.heap.size W w' := ⟨hk.os, hk.tape, hk.output, hk.size, hk.block⟩
    refine ⟨⟨?_, BB.trans (bk.mono BB.size)⟩, bk⟩
    rcases hc with ⟨e1, e2⟩ | ⟨e1, e2⟩
    · exact Or.inl ⟨e1, fun h => e2 (SS'.1 (by have := h.sub; simpa using this))⟩
    · exact Or.inr ⟨e1, ⟨HV.out, a0, a1, b0, b1, by simpa using SS'.2 e2⟩⟩
  clear SK SS SS' n3 i3 f3 b3 hH hu hv hSe hcl HK HP HS HNS BX R2 HV HNN HNK HB
  have t2 : (w3.alloc (.cells #[.slice oa S.length cap] 25)).cell? ⟨w3.heap.size, 0, none⟩ = some (.slice oa S.length cap) := (row1 w3 (.slice oa S.length cap) 25).cell (i := 0) (by omega)
  have t3 : (w3.alloc (.cells #[.slice oa S.length cap] 25)).cell? ⟨lb, 0, none⟩ = some (.int .i64 (u : Int)) := ((bel1 w3 _).cell (p := ⟨lb, 0, none⟩) (World.block_lt_of_cell? _ _ t0)).trans t0
  have t4 : (w3.alloc (.cells #[.slice oa S.length cap] 25)).cell? ⟨lb, 1, none⟩ = some (.int .i64 (v : Int)) := ((bel1 w3 _).cell (p := ⟨lb, 1, none⟩) (World.block_lt_of_cell? _ _ t1)).trans t1
  go_wp2_with fail
  go_region_held3 (fun w' => w'.cell? ⟨w3.heap.size, 0, none⟩ = some (.slice oa S.length cap) ∧ w'.cell? ⟨lb, 0, none⟩ = some (.int .i64 (u : Int)) ∧ w'.cell? ⟨lb, 1, none⟩ = some (.int .i64 (v : Int))) (go_keep)
    (first | (go_at_call 27; (first | (with_reducible refine (C26.out _ (bel1 _ _)).mono ?_) | (with_reducible refine (C26.out _ (bel1 _ _).drew).mono ?_)); rintro e w5 ⟨hE, hbe⟩; obtain ⟨r, rfl⟩ : ∃ r, e = .returned (.bool r) := (by rcases hE.1 with ⟨z, _⟩ | ⟨z, _⟩ <;> exact ⟨_, z⟩); have FH : Hid (SubPost N G (x : Int) (y : Int) w (.returned (.bool r)) w5) := hE; have y2 := (hbe.cell (p := ⟨w3.heap.size, 0, none⟩) (by simp)).trans t2; have y3 := (hbe.cell (p := ⟨lb, 0, none⟩) (by have := World.block_lt_of_cell? _ _ t3; simpa using this)).trans t3; have y4 := (hbe.cell (p := ⟨lb, 1, none⟩) (by have := World.block_lt_of_cell? _ _ t4; simpa using this)).trans t4; clear hE hbe))
  all_goals
    clear C26
    go_wp2
    go_ret
    exact FH.out

end Go.Proofs.YtoanhnmpkonbfaaGreatDoor
