/-
  The model's Sub.
-/
import Derived.Test.YtoanhnmpkonbfaaGreatDoorSubMod
namespace Go.Proofs.YtoanhnmpkonbfaaGreatDoor
open Go.RowKit Go.Maps

theorem iff_no {p : Prop} (h : ¬ p) : (false = true ↔ p) := ⟨fun e => (by cases e), fun e => absurd e h⟩

set_option maxRecDepth 100000 in
set_option maxHeartbeats 4000000 in
theorem m_isNode (ao : Option Addr) (N gc : Nat) (u : Int) (w : World) :
    Calls Tryz.prog 28 #[.agg #[.slice ao N gc], .int .i64 u] w fun e w' => e = .returned (.bool (decide (0 ≤ u ∧ u < N))) ∧ Below w.heap.size w w' := by
  have HB : Hid (Below w.heap.size w (w.alloc (.cells #[.slice ao N gc] 25))) := bel1 _ _
  by_cases h0 : 0 ≤ u
  · by_cases h1 : u < (N : Int)
    · rw [decide_eq_true ⟨h0, h1⟩]
      go_enter Tryz.func28, Tryz.ntmps28
      go_wp2
      go_ret
      exact ⟨rfl, HB.out⟩
    · rw [decide_eq_false (fun h => h1 h.2)]
      go_enter Tryz.func28, Tryz.ntmps28
      go_wp2
      go_ret
      exact ⟨rfl, HB.out⟩
  · rw [decide_eq_false (fun h => h0 h.1)]
    go_enter Tryz.func28, Tryz.ntmps28
    go_wp2
    go_ret
    exact ⟨rfl, HB.out⟩

set_option maxRecDepth 100000 in
set_option maxHeartbeats 4000000 in
theorem m_Sub (ao : Option Addr) (gb go N gc : Nat) (p : Nat → NP) (G : Nat → ND) (u v : Int) (w : World) (h : NodesAt w ao gb go N p G) (hn : ∀ i, i < N → (G i).nn ≤ 1048576) :
    Calls Tryz.prog 9 #[.agg #[.slice ao N gc], .int .i64 u, .int .i64 v] w fun e w' => ∃ r, e = .returned (.bool r) ∧ (r = true ↔ SubAns N G u v) ∧ Below w.heap.size w w' := by
  obtain ⟨w0, hw0⟩ : ∃ w0, w0 = w.alloc (.cells #[.slice ao N gc] 25) := ⟨_, rfl⟩
  have B0 : Below w.heap.size w w0 := by rw [hw0]; exact bel1 _ _
  have HB0 : Hid (Below w.heap.size w w0) := B0
  have R0 : w0.rowIs w.heap.size 25 1 (fun _ => .slice ao N gc) := by rw [hw0]; exact row1 _ _ _
  obtain ⟨bg, hbg⟩ : ∃ bg, bg = w.heap.size := ⟨_, rfl⟩
  rw [← hbg] at R0
  have HZ : Hid (∀ W, Below w0.heap.size w0 W → W.cell? ⟨bg, 0, none⟩ = some (.slice ao N gc)) := fun W hW => cell_on (R0.cell (i := 0) (by omega)) hW
  have HG : Hid (∀ W, Below w0.heap.size w0 W → NodesAt W ao gb go N p G) := fun W hW => h.below (B0.trans (hW.mono B0.size))
  have CV : Hid (Calls Tryz.prog 7 #[.agg #[.slice ao N gc]] w0 fun e w' => e = .returned (.bool (vgr N G)) ∧ Hid (Below w0.heap.size w0 w')) := g10 ao gb go N gc p G w0 (HG.out w0 (Below.refl _ _))
  have CU : Hid (∀ W, Below w0.heap.size w0 W → Calls Tryz.prog 28 #[.agg #[.slice ao N gc], .int .i64 u] W fun e w' => e = .returned (.bool (decide (0 ≤ u ∧ u < N))) ∧ Hid (Below w0.heap.size w0 w')) := fun W hW => (m_isNode ao N gc u W).mono fun e w' ⟨h1, h2⟩ => ⟨h1, hW.trans (h2.mono hW.size)⟩
  have CW : Hid (∀ W, Below w0.heap.size w0 W → Calls Tryz.prog 28 #[.agg #[.slice ao N gc], .int .i64 v] W fun e w' => e = .returned (.bool (decide (0 ≤ v ∧ v < N))) ∧ Hid (Below w0.heap.size w0 w')) := fun W hW => (m_isNode ao N gc v W).mono fun e w' ⟨h1, h2⟩ => ⟨h1, hW.trans (h2.mono hW.size)⟩
  have c0 := HZ.out w0 (Below.refl _ _)
  have HN : Hid (∀ i, i < N → (G i).nn ≤ 1048576) := hn
  clear h hn B0 R0
  cases hvg : vgr N G
  · have HE : Hid (∀ W, Below w0.heap.size w0 W → ∃ r, Ending.returned (Value.bool false) = .returned (.bool r) ∧ (r = true ↔ SubAns N G u v) ∧ Below w.heap.size w W) := fun W hW => ⟨false, rfl, iff_no (fun h => by have := h.valid; rw [hvg] at this; cases this), HB0.out.trans (hW.mono HB0.out.size)⟩
    rw [hvg] at CV
    clear hvg
    go_enter Tryz.func9, Tryz.ntmps9
    go_wp2_with fail
    rw [← hw0]
    clear hw0
    refine CV.out.mono ?_
    rintro e w1 ⟨rfl, H1⟩
    go_wp2
    go_ret
    exact HE.out w1 H1.out
  · have HVG : Hid (vgr N G = true) := hvg
    rw [hvg] at CV
    clear hvg
    by_cases hu : 0 ≤ u ∧ u < (N : Int)
    · by_cases hv : 0 ≤ v ∧ v < (N : Int)
      · rw [decide_eq_true hu] at CU
        rw [decide_eq_true hv] at CW
        obtain ⟨a, rfl⟩ : ∃ a : Nat, u = (a : Int) := ⟨u.toNat, by omega⟩
        obtain ⟨b, rfl⟩ : ∃ b : Nat, v = (b : Int) := ⟨v.toNat, by omega⟩
        have CS : Hid (∀ W, Below w0.heap.size w0 W → Calls Tryz.prog 29 #[.agg #[.slice ao N gc], .int .i64 (a : Int), .int .i64 (b : Int)] W fun e w' => ∃ r, e = .returned (.bool r) ∧ Hid ((r = true ↔ SubAns N G a b) ∧ Below w.heap.size w w')) := fun W hW => by
          refine (m_sub ao gc a b W (HG.out W hW) (by omega) (by omega) (kids_of HVG.out) (fun x hx => plain_of (shp_of HVG.out hx)) (fun x hx => srt_of (shp_of HVG.out hx)) (vgr_len HVG.out) HN.out).mono ?_
          rintro e w' ⟨r, h1, h2, h3⟩
          refine ⟨r, h1, ⟨fun h => ⟨HVG.out, by omega, by omega, by omega, by omega, h2.1 h⟩, fun h => h2.2 h.sub⟩, ?_⟩
          exact (HB0.out.trans (hW.mono HB0.out.size)).trans (h3.mono (HB0.out.trans (hW.mono HB0.out.size)).size)
        clear hu hv
        go_enter Tryz.func9, Tryz.ntmps9
        go_wp2_with fail
        rw [← hw0, ← hbg]
        clear hw0 hbg
        refine CV.out.mono ?_
        rintro e w1 ⟨rfl, H1⟩
        have c1 := HZ.out w1 H1.out
        clear c0
        go_wp2_with fail
        refine (CU.out _ H1.out).mono ?_
        rintro e w2 ⟨rfl, H2⟩
        have c2 := HZ.out w2 H2.out
        clear c1
        go_wp2_with fail
        refine (CW.out _ H2.out).mono ?_
        rintro e w3 ⟨rfl, H3⟩
        have c3 := HZ.out w3 H3.out
        clear c2
        go_wp2_with fail
        refine (CS.out _ H3.out).mono ?_
        rintro e w4 ⟨r, rfl, H4⟩
        go_wp2
        go_ret
        exact ⟨r, rfl, H4.out.1, H4.out.2⟩
      · rw [decide_eq_true hu] at CU
        rw [decide_eq_false hv] at CW
        have HE : Hid (∀ W, Below w0.heap.size w0 W → ∃ r, Ending.returned (Value.bool false) = .returned (.bool r) ∧ (r = true ↔ SubAns N G u v) ∧ Below w.heap.size w W) := fun W hW => ⟨false, rfl, iff_no (fun h => hv ⟨h.b0, h.b1⟩), HB0.out.trans (hW.mono HB0.out.size)⟩
        clear hu hv
        go_enter Tryz.func9, Tryz.ntmps9
        go_wp2_with fail
        rw [← hw0, ← hbg]
        clear hw0 hbg
        refine CV.out.mono ?_
        rintro e w1 ⟨rfl, H1⟩
        have c1 := HZ.out w1 H1.out
        clear c0
        go_wp2_with fail
        refine (CU.out _ H1.out).mono ?_
        rintro e w2 ⟨rfl, H2⟩
        have c2 := HZ.out w2 H2.out
        clear c1
        go_wp2_with fail
        refine (CW.out _ H2.out).mono ?_
        rintro e w3 ⟨rfl, H3⟩
        go_wp2
        go_ret
        exact HE.out w3 H3.out
    · rw [decide_eq_false hu] at CU
      have HE : Hid (∀ W, Below w0.heap.size w0 W → ∃ r, Ending.returned (Value.bool false) = .returned (.bool r) ∧ (r = true ↔ SubAns N G u v) ∧ Below w.heap.size w W) := fun W hW => ⟨false, rfl, iff_no (fun h => hu ⟨h.a0, h.a1⟩), HB0.out.trans (hW.mono HB0.out.size)⟩
      clear hu
      go_enter Tryz.func9, Tryz.ntmps9
      go_wp2_with fail
      rw [← hw0, ← hbg]
      clear hw0 hbg
      refine CV.out.mono ?_
      rintro e w1 ⟨rfl, H1⟩
      have c1 := HZ.out w1 H1.out
      clear c0
      go_wp2_with fail
      refine (CU.out _ H1.out).mono ?_
      rintro e w2 ⟨rfl, H2⟩
      go_wp2
      go_ret
      exact HE.out w2 H2.out

end Go.Proofs.YtoanhnmpkonbfaaGreatDoor
