/-
  A graph is drawn, sometimes broken: there is one that comes out, whatever else lies in memory.
-/
import Derived.Test.YtoanhnmpkonbfaaGreatDoorDrD
import Derived.Test.YtoanhnmpkonbfaaGreatDoorDrE
namespace Go.Proofs.YtoanhnmpkonbfaaGreatDoor
open Go.RowKit Go.Maps

/-- A box that holds a slice is none of the blocks of a graph. -/
theorem box_cell {w : World} {X : Nat} {t : TypeId} {v : Value} {b o : Nat} {u : Value} (h : w.rowIs X t 1 (fun _ => v)) (hc : w.cell? ⟨b, o, none⟩ = some u) (hne : u ≠ v) : b ≠ X := fun e => by
  subst e
  obtain ⟨c, h1, h2, h3⟩ := h
  have h0 := h3 0 (by omega)
  simp [World.cell?, h1] at hc
  obtain ⟨hlt, hv⟩ := Array.getElem?_eq_some_iff.1 hc
  have : o = 0 := by omega
  subst this
  rw [h0] at hc
  exact hne (Option.some.inj hc).symm

theorem nodes_box {w : World} {X : Nat} {t : TypeId} {ao bo : Option Addr} {b o n k c : Nat} {p : Nat → NP} {G : Nat → ND} (h : NodesAt w ao b o n p G) (hX : w.rowIs X t 1 (fun _ => .slice bo k c)) (u : Value) : NodesAt (w.setCell ⟨X, 0, none⟩ u) ao b o n p G := by
  have hb : ∀ j, j ≠ X → (w.setCell ⟨X, 0, none⟩ u).heap[j]? = w.heap[j]? := fun j hj => Below.heap_setCell _ _ _ _ hj
  have bn : 0 < n → b ≠ X := fun z => box_cell hX (h.c0 0 z) (by simp)
  refine ⟨h.at_, fun i hi => ?_, fun i hi => ?_, fun i hi => ?_, fun i hi => ?_, h.len⟩
  · exact (World.cell?_of_block (hb _ (bn (by omega)))).trans (h.c0 i hi)
  · exact (World.cell?_of_block (hb _ (bn (by omega)))).trans (h.c1 i hi)
  · exact (World.cell?_of_block (hb _ (bn (by omega)))).trans (h.c2 i hi)
  · have N := h.node i hi
    exact N.later (fun z => hb _ (box_cell hX (N.names.cell 0 z) (by simp))) (fun z => hb _ (box_cell hX (N.kids.cell 0 z) (by simp)))

theorem spoil_few {N a : Nat} {x : ND} (h : Few 3 x) : (spoilD N a x).nn ≤ 4 ∧ (spoilD N a x).nk ≤ 4 := by
  have h1 := h.nn
  have h2 := h.nk
  unfold spoilD
  split
  · exact ⟨by show x.nn ≤ 4; omega, by show x.nk ≤ 4; omega⟩
  split
  · exact ⟨by show x.nn ≤ 4; omega, by show 1 + x.nk ≤ 4; omega⟩
  split
  · exact ⟨by show x.nn ≤ 4; omega, by show x.nk ≤ 4; omega⟩
  split
  · exact ⟨by show 2 ≤ 4; omega, by show 2 ≤ 4; omega⟩
  split
  · exact ⟨by show 2 ≤ 4; omega, by show 2 ≤ 4; omega⟩
  split
  · exact ⟨by show 1 ≤ 4; omega, by show 1 ≤ 4; omega⟩
  · exact ⟨by show 0 ≤ 4; omega, by show 2 ≤ 4; omega⟩

/-- What is known of the graph that is drawn. -/
structure AnyOk (C : Nat → Nat) (L p : Nat) (G : List ND) (q : Nat) : Prop where
  len : G.length = cntL L
  few : ∀ j, j < G.length → (gd G j).nn ≤ 4 ∧ (gd G j).nk ≤ 4
  place : q ≤ p + 200
  calls : ∀ (ca : Option Addr) (cb co cc : Nat) (w : World), BytesAt w ca cb co L C → Calls Tryz.prog 34 #[.slice ca L cc, .int .i64 (p : Int)] w fun e w' => GraphPost w (cntL L) G q e w'

set_option maxRecDepth 100000 in
set_option maxHeartbeats 8000000 in
theorem any_graph (C : Nat → Nat) (L p : Nat) (hL : L ≤ 1048576) (hp : p ≤ 100) : ∃ G q, AnyOk C L p G q := by
  have hc := cntL_le L
  obtain ⟨f1, f2, f3⟩ := drawN_few (C := C) (L := L) (n := cntL L) (p := p + 1) (by omega) (cntL L)
  have f0 := drawN_len C L (cntL L) (p + 1) (cntL L)
  obtain ⟨n, hn⟩ : ∃ n, n = cntL L := ⟨_, rfl⟩
  rw [← hn] at hc f1 f2 f3 f0
  obtain ⟨D, hD⟩ : ∃ D, D = drawN C L n (p + 1) n := ⟨_, rfl⟩
  rw [← hD] at f1 f2 f3 f0
  obtain ⟨G, Q⟩ := D
  have hG1 : (drawN C L n (p + 1) n).1 = G := by rw [← hD]
  have hG2 : (drawN C L n (p + 1) n).2 = Q := by rw [← hD]
  clear hD
  have f0' : G.length = n := f0
  have f1' : ∀ j, j < n → Few 3 (gd G j) := fun j hj => f1 j (by show j < G.length; omega)
  have f3' : Q ≤ p + 1 + 8 * n := f3
  clear f0 f1 f2 f3
  obtain ⟨a, ha⟩ : ∃ a, a = tk C L p 32 := ⟨_, rfl⟩
  have HA : Hid (tk C L p 32 = a) := ha.symm
  have HN : Hid (n = cntL L) := hn
  have HG : Hid ((drawN C L n (p + 1) n).1 = G ∧ (drawN C L n (p + 1) n).2 = Q) := ⟨hG1, hG2⟩
  have HF : Hid (∀ j, j < n → Few 3 (gd G j)) := f1'
  have HL0 : Hid (G.length = n) := f0'
  clear ha hn hG1 hG2 f1' f0'
  have la : a < 32 := by rw [← HA.out]; exact tk_lt (by omega)
  by_cases h28 : 28 ≤ a
  case neg =>
    refine ⟨G, Q, by rw [HL0.out, HN.out], fun j hj => ?_, by omega, fun ca cb co cc w h => ?_⟩
    · have F := HF.out j (by have := HL0.out; omega)
      exact ⟨Nat.le_trans F.nn (by omega), Nat.le_trans F.nk (by omega)⟩
    rw [← HN.out]
    have HC : Hid (∀ w', Below w.heap.size w w' → BytesAt w' ca cb co L C) := fun w' hb => h.below hb
    clear h
    obtain ⟨W0, hW0⟩ : ∃ W0, W0 = w.alloc (.cells #[.slice none 0 0] 25) := ⟨_, rfl⟩
    have B0 : Below w.heap.size w W0 := by rw [hW0]; exact bel1 _ _
    have z0' : w.heap.size < W0.heap.size := by rw [hW0]; simp
    have r0 : W0.rowIs w.heap.size 25 1 (fun _ => .slice none 0 0) := by rw [hW0]; exact row1 _ _ _
    have q28 : ¬ (28 : Int) ≤ (a : Int) := by omega
    go_enter Tryz.func34, Tryz.ntmps34
    go_wp2_with fail
    rw [← hW0]
    clear hW0
    refine (d_take ca cb co L cc p 32 C W0 (HC.out W0 B0) hL (by omega) (by omega)).mono ?_
    rintro e w1 ⟨rfl, rfl⟩
    rw [HA.out]
    go_wp2_with fail
    refine (d_count ca L cc W0 hL).mono ?_
    rintro e w1 ⟨rfl, rfl⟩
    rw [← HN.out]
    go_wp2_with fail
    refine (d_graph ca cb co L cc (p + 1) n C W0 (HC.out W0 B0) hL (by omega) (by omega)).mono ?_
    rw [HG.out.1, HG.out.2]
    rintro e w2 ⟨oa, cap, b, q, rfl, hN, hb2⟩
    have RR := r0.of_block (hb2.block _ z0')
    have R2 := RR.alloc (.cells #[.slice oa n cap] 25)
    have k0 := R2.cell (i := 0) (by omega)
    have k1 := R2.frozen 0
    have NF : Hid (NodesAt ((w2.alloc (.cells #[.slice oa n cap] 25)).setCell ⟨w.heap.size, 0, none⟩ (.slice oa n cap)) oa b 0 n q (gd G)) := nodes_box (hN.below (bel1 _ _)) R2 _
    have BF : Hid (Below w.heap.size w ((w2.alloc (.cells #[.slice oa n cap] 25)).setCell ⟨w.heap.size, 0, none⟩ (.slice oa n cap))) := ((B0.trans (hb2.mono B0.size)).alloc (by have := hb2.size; omega) _).setCell (Nat.le_refl _) _
    clear hN hb2 RR R2
    go_wp2
    exact bodyPost_ret (v := .tuple #[.agg #[.slice oa n cap], .int .i64 (Q : Int)]) (by simp [results, Tryz.results34, go_sem, k0]) rfl ⟨oa, cap, b, q, rfl, NF.out, BF.out⟩
  case pos =>
    refine ⟨spoilL C L Q G, Q + 2, by unfold spoilL; rw [upN_len, HL0.out, HN.out], fun j hj => ?_, by omega, fun ca cb co cc w h => ?_⟩
    · unfold spoilL at hj ⊢
      rw [upN_len] at hj
      rw [gd_upN _ hj]
      have F := HF.out j (by have := HL0.out; omega)
      unfold spoilF
      split
      · exact spoil_few F
      · exact ⟨Nat.le_trans F.nn (by omega), Nat.le_trans F.nk (by omega)⟩
    rw [← HN.out]
    have HC : Hid (∀ w', Below w.heap.size w w' → BytesAt w' ca cb co L C) := fun w' hb => h.below hb
    clear h
    obtain ⟨W0, hW0⟩ : ∃ W0, W0 = w.alloc (.cells #[.slice none 0 0] 25) := ⟨_, rfl⟩
    have B0 : Below w.heap.size w W0 := by rw [hW0]; exact bel1 _ _
    have z0' : w.heap.size < W0.heap.size := by rw [hW0]; simp
    have r0 : W0.rowIs w.heap.size 25 1 (fun _ => .slice none 0 0) := by rw [hW0]; exact row1 _ _ _
    have q28 : (28 : Int) ≤ (a : Int) := by omega
    go_enter Tryz.func34, Tryz.ntmps34
    go_wp2_with fail
    rw [← hW0]
    clear hW0
    refine (d_take ca cb co L cc p 32 C W0 (HC.out W0 B0) hL (by omega) (by omega)).mono ?_
    rintro e w1 ⟨rfl, rfl⟩
    rw [HA.out]
    go_wp2_with fail
    refine (d_count ca L cc W0 hL).mono ?_
    rintro e w1 ⟨rfl, rfl⟩
    rw [← HN.out]
    go_wp2_with fail
    refine (d_graph ca cb co L cc (p + 1) n C W0 (HC.out W0 B0) hL (by omega) (by omega)).mono ?_
    rw [HG.out.1, HG.out.2]
    rintro e w2 ⟨oa, cap, b, q, rfl, hN, hb2⟩
    have B2 : Below w.heap.size w w2 := B0.trans (hb2.mono B0.size)
    obtain ⟨W3, hW3⟩ : ∃ W3, W3 = w2.alloc (.cells #[.slice oa n cap] 25) := ⟨_, rfl⟩
    have B3 : Below w2.heap.size w2 W3 := by rw [hW3]; exact bel1 _ _
    have RR := (r0.of_block (hb2.block _ z0')).of_block (B3.block _ (by have := hb2.size; omega))
    have BW3 : Below w.heap.size w W3 := B2.trans (B3.mono B2.size)
    go_wp2_with fail
    rw [← hW3]
    clear hW3
    refine (d_spoil ca cb co L cc Q b cap n oa C G q W3 (HC.out W3 BW3) (hN.below B3) HL0.out HF.out hL (by omega) (by omega)).mono ?_
    rintro e w4 ⟨oa4, cap4, b4, q4, rfl, hN4, hb4⟩
    have R4 := RR.of_block (hb4.block _ RR.lt)
    have k0 := R4.cell (i := 0) (by omega)
    have k1 := R4.frozen 0
    have NF : Hid (NodesAt (w4.setCell ⟨w.heap.size, 0, none⟩ (.slice oa4 n cap4)) oa4 b4 0 n q4 (gd (spoilL C L Q G))) := nodes_box hN4 R4 _
    have BF : Hid (Below w.heap.size w (w4.setCell ⟨w.heap.size, 0, none⟩ (.slice oa4 n cap4))) := (BW3.trans (hb4.mono BW3.size)).setCell (Nat.le_refl _) _
    clear hN hb2 RR R4 hN4 hb4 B3
    go_wp2
    exact bodyPost_ret (v := .tuple #[.agg #[.slice oa4 n cap4], .int .i64 ((Q : Int) + 2)]) (by simp [results, Tryz.results34, go_sem, k0]) rfl ⟨oa4, cap4, b4, q4, rfl, NF.out, BF.out⟩

end Go.Proofs.YtoanhnmpkonbfaaGreatDoor
