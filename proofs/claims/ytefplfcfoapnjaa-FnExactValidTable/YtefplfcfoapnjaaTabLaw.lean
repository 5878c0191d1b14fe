/-
  Tables: the walk of the law on ValidTable.
-/
import Derived.Test.YtefplfcfoapnjaaTabR
import Derived.Test.YtefplfcfoapnjaaTabSz
import Derived.Test.YtefplfcfoapnjaaTabTo2
namespace Go.Proofs.Ytefplfcfoapnjaa
open Go.RowKit

set_option maxHeartbeats 8000000 in
theorem c3 (ao : Option Addr) (b o n c : Nat) (p : Nat → SP) (D : Nat → SD) (w : World) (h1 : SlotsAt w ao b o n p D) :
    Calls Try.prog 3 #[.agg #[.slice ao n c]] w fun e w' => e = .returned (.bool true) ∧ Below w.heap.size w w' := by
  have HB : Hid (∀ w', Below w.heap.size w w' → SlotsAt w' ao b o n p D) := fun w' hb => h1.below hb
  clear h1
  go_enter Try.func3, Try.ntmps3
  go_wp2_with fail
  refine (c6 ao b o n c p D 1048576 _ (by omega) (by omega) (by exact HB.out _ (bel1 _ _))).mono ?_
  rintro e w1 ⟨r, rfl, hr, hb1⟩
  have B1 : Below w.heap.size w w1 := (bel1 w _).trans (hb1.mono (by simp))
  have k1 : w1.cell? ⟨w.heap.size, 0, none⟩ = some (.slice ao n c) := by rw [hb1.cell (p := ⟨w.heap.size, 0, none⟩) (by simp)]; simp
  have z1 : w.heap.size < w1.heap.size := by have := hb1.size; simp at this; omega
  clear hb1
  by_cases h3 : r < 0
  · go_wp2
    go_ret
    exact ⟨rfl, B1⟩
  obtain ⟨hn, hG⟩ := hr.ok (by omega)
  have HG : Hid (∀ i, i < n → (D i).n ≤ 1048576) := fun i hi => (hG i hi).2.2.1
  clear hr hG
  go_wp2_with fail
  refine (c8 ao b o n c p D _ (by exact HB.out _ B1) hn HG.out).mono ?_
  rintro e w2 ⟨b2, p2, rfl, N2, hb2, _⟩
  have B2 : Below w.heap.size w w2 := B1.trans (hb2.mono B1.size)
  have k2 : w2.cell? ⟨w.heap.size, 0, none⟩ = some (.slice ao n c) := by rw [hb2.cell (p := ⟨w.heap.size, 0, none⟩) z1]; exact k1
  have z2 : w.heap.size < w2.heap.size := by have := hb2.size; omega
  clear hb2 k1 z1 B1
  go_wp2_with fail
  refine (c7 (some ⟨b2, 0, none⟩) b2 0 n n p2 D _ N2).mono ?_
  rintro e w3 ⟨rfl, hb3⟩
  have B3 : Below w.heap.size w w3 := B2.trans (hb3.mono B2.size)
  have k3 : w3.cell? ⟨w.heap.size, 0, none⟩ = some (.slice ao n c) := by rw [hb3.cell (p := ⟨w.heap.size, 0, none⟩) z2]; exact k2
  have z3 : w.heap.size < w3.heap.size := by have := hb3.size; omega
  clear hb3 k2 z2 B2 N2
  obtain ⟨v, hv⟩ : ∃ v, vt n D = v := ⟨_, rfl⟩
  rw [hv]
  have HV : Hid (vt n D = v) := hv
  clear hv
  go_wp2_with fail
  refine (c8 ao b o n c p D _ (by exact HB.out _ B3) hn HG.out).mono ?_
  rintro e w4 ⟨b4, p4, rfl, N4, hb4, _⟩
  have B4 : Below w.heap.size w w4 := B3.trans (hb4.mono B3.size)
  have k4 : w4.cell? ⟨w.heap.size, 0, none⟩ = some (.slice ao n c) := by rw [hb4.cell (p := ⟨w.heap.size, 0, none⟩) z3]; exact k3
  have z4 : w.heap.size < w4.heap.size := by have := hb4.size; omega
  clear hb4 k3 z3 B3
  go_wp2_with fail
  refine (c9 (some ⟨b4, 0, none⟩) b4 0 n n p4 D _ (by exact N4.below (bel1 _ _))).mono ?_
  rintro e w5 ⟨rfl, hb5⟩
  rw [HV.out]
  have C5 : Below w4.heap.size w4 w5 := (bel1 w4 _).trans (hb5.mono (by simp))
  have B5 : Below w.heap.size w w5 := B4.trans (C5.mono B4.size)
  have k5 : w5.cell? ⟨w.heap.size, 0, none⟩ = some (.slice ao n c) := by rw [C5.cell (p := ⟨w.heap.size, 0, none⟩) z4]; exact k4
  have m5 : w5.cell? ⟨w4.heap.size, 0, none⟩ = some (.slice (some ⟨b4, 0, none⟩) n n) := by rw [hb5.cell (p := ⟨w4.heap.size, 0, none⟩) (by simp)]; simp
  have y5 : w4.heap.size < w5.heap.size := by have := hb5.size; simp at this; omega
  have N5 := N4.below C5
  clear hb5 C5
  go_wp2_with fail
  have B5d : Below w.heap.size w w5.drew := B5.drew
  have z5 : w.heap.size < w5.heap.size := by omega
  clear k4 z4 B4 N4
  go_region_with (first | (go_at_call 8; refine (c8 ao b o n c p D _ (by exact HB.out _ B5d) hn HG.out).mono ?_; rintro e w6 ⟨b6, p6, rfl, N6, hb6, _⟩; have m6 : w6.cell? ⟨w4.heap.size, 0, none⟩ = some (.slice (some ⟨b4, 0, none⟩) n n) := (hb6.cell (p := ⟨w4.heap.size, 0, none⟩) y5).trans m5; have N56 := (N5.below (Below.refl _ _).drew).below hb6) | (go_at_call 10; refine (c10 (some ⟨b4, 0, none⟩) (some ⟨b6, 0, none⟩) b4 0 n b6 0 n n p4 p6 D _ N56 N6).mono ?_; rintro e w7 ⟨rfl, hb7⟩))
  all_goals
    go_wp2
    go_ret
    exact ⟨rfl, (B5d.trans (hb6.mono B5d.size)).trans (hb7.mono (B5d.trans (hb6.mono B5d.size)).size)⟩

end Go.Proofs.Ytefplfcfoapnjaa
