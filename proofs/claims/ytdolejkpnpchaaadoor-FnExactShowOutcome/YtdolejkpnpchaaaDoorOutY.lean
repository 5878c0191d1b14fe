/-
  Outcomes: the contract of the function that compares two of them.
-/
import Derived.Test.YtdolejkpnpchaaaDoorOutX
namespace Go.Proofs.YtdolejkpnpchaaaDoor
open Go.RowKit

set_option maxRecDepth 100000 in
set_option maxHeartbeats 4000000 in
theorem e_outcome (code drops rev slots : Int) (oa oa' : Option Addr) (ga ga' n ca ca' : Nat) (A : Nat → AD) (P P' : Nat → Option Addr × Nat × Nat) (orr orr' : Option Addr) (gr gr' m cr cr' : Nat) (R : Nat → RD) (ot ot' : Option Addr) (bt o bt' o' nt ct ct' : Nat) (p p' : Nat → SP) (D : Nat → SD) (w : World) (hn : n ≤ 1048576) (hd : ∀ i, i < n → (A i).nd ≤ 1048576) (hm : m ≤ 1048576) (h1 : AnsAt w oa ga n A P) (h1' : AnsAt w oa' ga' n A P') (h3 : RanAt w orr gr m R) (h3' : RanAt w orr' gr' m R) (h5 : SlotsAt w ot bt o nt p D) (h5' : SlotsAt w ot' bt' o' nt p' D) :
    Calls Tryd.prog 8 #[.agg #[.int .i64 code, .slice oa n ca, .slice orr m cr, .int .i64 drops, .int .i64 rev, .int .i64 slots, .slice ot nt ct], .agg #[.int .i64 code, .slice oa' n ca', .slice orr' m cr', .int .i64 drops, .int .i64 rev, .int .i64 slots, .slice ot' nt ct']] w fun e w' => e = .returned (.bool true) ∧ Below w.heap.size w w' := by
  obtain ⟨Y, hY⟩ : ∃ Y, Y = (w.alloc (.cells #[.int .i64 code, .slice oa n ca, .slice orr m cr, .int .i64 drops, .int .i64 rev, .int .i64 slots, .slice ot nt ct] 37)).alloc (.cells #[.int .i64 code, .slice oa' n ca', .slice orr' m cr', .int .i64 drops, .int .i64 rev, .int .i64 slots, .slice ot' nt ct'] 37) := ⟨_, rfl⟩
  have BY : Below w.heap.size w Y := by rw [hY]; exact bel2 w _ _
  have hYs : Y.heap.size = w.heap.size + 2 := by rw [hY]; simp
  have R1 : Y.rowIs w.heap.size 37 7 (t7 (.int .i64 code) (.slice oa n ca) (.slice orr m cr) (.int .i64 drops) (.int .i64 rev) (.int .i64 slots) (.slice ot nt ct)) := by
    rw [hY]; exact (rowt7 w _ _ _ _ _ _ _ _).alloc _
  have R2 : Y.rowIs (w.heap.size + 1) 37 7 (t7 (.int .i64 code) (.slice oa' n ca') (.slice orr' m cr') (.int .i64 drops) (.int .i64 rev) (.int .i64 slots) (.slice ot' nt ct')) := by
    rw [hY]
    have h := rowt7 (w.alloc (.cells #[.int .i64 code, .slice oa n ca, .slice orr m cr, .int .i64 drops, .int .i64 rev, .int .i64 slots, .slice ot nt ct] 37)) (.int .i64 code) (.slice oa' n ca') (.slice orr' m cr') (.int .i64 drops) (.int .i64 rev) (.int .i64 slots) (.slice ot' nt ct') 37
    simp only [World.size_alloc] at h
    exact h
  have HW : Hid (∀ W, Below Y.heap.size Y W → Below w.heap.size w W) := fun W hW => BY.trans (hW.mono (by omega))
  have HR : Hid (∀ W, Below Y.heap.size Y W → W.rowIs w.heap.size 37 7 (t7 (.int .i64 code) (.slice oa n ca) (.slice orr m cr) (.int .i64 drops) (.int .i64 rev) (.int .i64 slots) (.slice ot nt ct)) ∧ W.rowIs (w.heap.size + 1) 37 7 (t7 (.int .i64 code) (.slice oa' n ca') (.slice orr' m cr') (.int .i64 drops) (.int .i64 rev) (.int .i64 slots) (.slice ot' nt ct'))) := fun W hW => ⟨R1.of_block (hW.block _ (by omega)), R2.of_block (hW.block _ (by omega))⟩
  have C1 := hid_of (e_answers oa oa' ga ga' n ca ca' A P P' Y hn hd (h1.below BY) (h1'.below BY))
  have C2 := hid_of (fun (W : World) (hW : Below Y.heap.size Y W) => e_rans orr orr' gr gr' m cr cr' R W hm (h3.below (HW.out W hW)) (h3'.below (HW.out W hW)))
  have C3 := hid_of (fun (W : World) (hW : Below Y.heap.size Y W) => c10 ot ot' bt o ct bt' o' ct' nt p p' D W (h5.below (HW.out W hW)) (h5'.below (HW.out W hW)))
  obtain ⟨⟨x0, x1, x2, x3, x4, x5, x6⟩, _⟩ := seven_at R1
  obtain ⟨⟨y0, y1, y2, y3, y4, y5, y6⟩, _⟩ := seven_at R2
  clear h1 h1' h3 h3' h5 h5' R1 R2 BY hYs hd
  go_enter Tryd.func8, Tryd.ntmps8
  go_upto_region 1 with fail
  rw [← hY]
  clear hY
  go_wp2_with fail
  refine C1.out.mono ?_
  rintro e w1 ⟨rfl, b1⟩
  clear C1 x0 x1 x2 x3 x4 x5 x6 y0 y1 y2 y3 y4 y5 y6
  obtain ⟨R1, R2⟩ := HR.out w1 b1
  obtain ⟨⟨x0, x1, x2, x3, x4, x5, x6⟩, _⟩ := seven_at R1
  obtain ⟨⟨y0, y1, y2, y3, y4, y5, y6⟩, _⟩ := seven_at R2
  have K2 := hid_of (C2.out w1 b1)
  have HB1 := hid_of b1
  clear R1 R2 b1 C2
  go_wp2_with fail
  refine K2.out.mono ?_
  rintro e w2 ⟨rfl, b2'⟩
  have b2 := HB1.out.trans (b2'.mono HB1.out.size)
  clear K2 x0 x1 x2 x3 x4 x5 x6 y0 y1 y2 y3 y4 y5 y6 b2'
  obtain ⟨R1, R2⟩ := HR.out w2 b2
  obtain ⟨⟨x0, x1, x2, x3, x4, x5, x6⟩, _⟩ := seven_at R1
  obtain ⟨⟨y0, y1, y2, y3, y4, y5, y6⟩, _⟩ := seven_at R2
  have K3 := hid_of (C3.out w2 b2)
  have HB2 := hid_of b2
  clear R1 R2 b2 C3
  go_wp2_with fail
  refine K3.out.mono ?_
  rintro e w3 ⟨rfl, b3'⟩
  have b3 := hid_of (HW.out w3 (HB2.out.trans (b3'.mono HB2.out.size)))
  clear K3 x0 x1 x2 x3 x4 x5 x6 y0 y1 y2 y3 y4 y5 y6 b3'
  go_wp2
  go_ret
  exact ⟨rfl, b3.out⟩
end Go.Proofs.YtdolejkpnpchaaaDoor
