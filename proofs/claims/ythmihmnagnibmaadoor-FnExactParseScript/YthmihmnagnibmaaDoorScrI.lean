/-
  Scripts: the law's look at its marks; both for whole scripts.
-/
import Derived.Test.YthmihmnagnibmaaDoorScrH
import Derived.Deep.DeepCutAuto
namespace Go.Proofs.YthmihmnagnibmaaDoor
open Go.RowKit

set_option maxRecDepth 100000 in
set_option maxHeartbeats 2000000 in
theorem l_heldEvents (ao : Option Addr) (g c n : Nat) (x : Nat) (w : World) (h : EvsIn w ao g n (mkE x)) (hx1 : 1 ≤ x) (hx2 : x ≤ 1048576) :
    Calls Tryd.prog 19 #[.slice ao n c, .int .i64 (x : Int)] w fun e w' => e = .returned (.int .i64 ((x + 4 * n : Nat) : Int)) ∧ Below w.heap.size w w' := by
  have A1 := h.at_
  have hlen := h.len
  have HB : Hid (∀ w', Below w.heap.size w w' → EvsIn w' ao g n (mkE x)) := fun w' hb => h.below hb
  clear h
  go_enter Tryd.func19, Tryd.ntmps19
  go_wp2
  go_loopw [1, 5] (fun y i wr => ∃ k : Nat, k ≤ n ∧ i = .int .i64 (k : Int) ∧ y = .int .i64 ((x + 4 * k : Nat) : Int) ∧ Hid (Below w.heap.size w wr)) (fun _ i _ => n - (intOf i).toNat)
  case atStart => exact ⟨0, Nat.zero_le _, rfl, rfl, Below.refl _ _⟩
  case round =>
    obtain ⟨k, hk, rfl, rfl, HW⟩ := hrel
    by_cases hlt : k < n
    · have e1 := A1 (by omega)
      subst e1
      obtain ⟨y, hy⟩ : ∃ y : Nat, y = x + 4 * k := ⟨_, rfl⟩
      have HX : Hid (y = x + 4 * k) := hy
      have hy1 : 1 ≤ y := by omega
      have hyb : y ≤ 10485760 := by omega
      have HZ : Hid (∀ W, Below w.heap.size w W → W.cell? ⟨g, k * 4, none⟩ = some (.int .i64 (y : Int)) ∧ W.cell? ⟨g, k * 4 + 1, none⟩ = some (.string (mt (y + 1))) ∧ W.cell? ⟨g, k * 4 + 2, none⟩ = some (.string (mt (y + 2))) ∧ W.cell? ⟨g, k * 4 + 3, none⟩ = some (.int .i64 ((y : Int) + 1 + 1 + 1))) := fun W hW => by
        obtain ⟨a0, a1, a2, a3⟩ := (HB.out W hW).four hlt
        rw [hy]
        refine ⟨a0, a1, a2, a3.trans ?_⟩
        show some (Value.int .i64 ((x + 4 * k + 3 : Nat) : Int)) = _
        congr 2
      rw [← hy]
      clear hy
      have hki : (k : Int) < (n : Int) := by omega
      have hk0 : (0 : Int) ≤ (k : Int) := by omega
      have w1 : IntKind.i64.wrap ((y : Int) + 1) = (y : Int) + 1 := by rw [IntKind.wrap_i64]; omega
      have w2 : IntKind.i64.wrap ((y : Int) + 1 + 1) = (y : Int) + 1 + 1 := by rw [IntKind.wrap_i64]; omega
      have w3 : IntKind.i64.wrap ((y : Int) + 1 + 1 + 1) = (y : Int) + 1 + 1 + 1 := by rw [IntKind.wrap_i64]; omega
      have w4 : IntKind.i64.wrap ((y : Int) + 1 + 1 + 1 + 1) = (y : Int) + 1 + 1 + 1 + 1 := by rw [IntKind.wrap_i64]; omega
      have CM : Hid (∀ (j : Nat) (z : Int) (W : World), z = (j : Int) → 0 < j → j ≤ 1048576000 → Hid (Below w.heap.size w W) → Calls Tryd.prog 34 #[.int .i64 z] W fun e w' => e = .returned (.string (mt j)) ∧ Hid (Below w.heap.size w w')) := fun j z W hz h1 h2 hW => (t_markText z j W hz h1 (by omega)).mono fun e w' ⟨he, hb⟩ => ⟨he, hW.out.trans (hb.mono hW.out.size)⟩
      have HD : Hid (Below w.heap.size w wr.drew) := HW.out.drew
      obtain ⟨a0, a1, a2, a3⟩ := HZ.out wr HW.out
      go_wp2_with fail
      go_region_held3 (fun w' => w'.cell? ⟨g, k * 4 + 1, none⟩ = some (.string (mt (y + 1)))) (first | go_keep | assumption)
        (first | (go_at_call 34; (with_reducible refine (CM.out (y + 1) _ _ (by omega) (by omega) (by omega) HD).mono ?_); rintro e wa ⟨rfl, HA⟩; obtain ⟨b0, b1, b2, b3⟩ := HZ.out wa HA.out))
      all_goals
        clear a0 a1 a2 a3 HD
        have HDA : Hid (Below w.heap.size w wa.drew) := HA.out.drew
        go_wp2_with fail
        go_region_held3 (fun w' => w'.cell? ⟨g, k * 4 + 2, none⟩ = some (.string (mt (y + 2)))) (first | go_keep | assumption)
          (first | (go_at_call 34; (with_reducible refine (CM.out (y + 2) _ _ (by omega) (by omega) (by omega) HDA).mono ?_); rintro e wb ⟨rfl, HBB⟩; obtain ⟨d0, d1, d2, d3⟩ := HZ.out wb HBB.out))
        all_goals
          clear b0 b1 b2 b3 HDA
          go_wp2
          go_roundw
          case rel => exact ⟨k + 1, by omega, by go_num, by rw [show x + 4 * (k + 1) = y + 4 by have := HX.out; omega]; rfl, HBB⟩
          case measure => simp [intOf]; omega
    · have hkn : k = n := by omega
      subst hkn
      clear HB
      go_wp2
      go_ret
      exact ⟨rfl, HW.out⟩

set_option maxRecDepth 100000 in
set_option maxHeartbeats 1000000 in
theorem l_markScript (ao : Option Addr) (g c n : Nat) (wks cpy : Int) (E : Nat → EV) (x : Nat) (w : World) (h : EvsIn w ao g n E) (hx1 : 1 ≤ x) (hx2 : x ≤ 1048576) :
    Calls Tryd.prog 7 #[.agg #[.int .i64 wks, .int .i64 cpy, .slice ao n c], .int .i64 (x : Int)] w fun e w' => e = .returned (.int .i64 ((x + 4 * n : Nat) : Int)) ∧ EvsIn w' ao g n (mkE x) ∧ Span g (g + 1) w w' := by
  have HB : Hid (EvsIn (w.alloc (.cells #[.int .i64 wks, .int .i64 cpy, .slice ao n c] 24)) ao g n E) := h.below (bel1 _ _)
  clear h
  go_enter Tryd.func7, Tryd.ntmps7
  go_wp2_with fail
  refine (l_markEvents ao g c n E x _ HB.out hx1 hx2).mono ?_
  rintro e w2 ⟨rfl, h2, s2⟩
  have HF : Hid (EvsIn w2 ao g n (mkE x) ∧ Span g (g + 1) w w2) := ⟨h2, (Span.of_below (bel1 w _)).trans s2⟩
  clear h2 s2
  obtain ⟨z, hz⟩ : ∃ z : Int, z = ((x + 4 * n : Nat) : Int) := ⟨_, rfl⟩
  rw [← hz]
  have HZZ : Hid (z = ((x + 4 * n : Nat) : Int)) := hz
  clear hz
  go_wp2
  go_ret
  exact ⟨ret_int' HZZ.out, HF.out.1, HF.out.2⟩

set_option maxRecDepth 100000 in
set_option maxHeartbeats 1000000 in
theorem l_heldScript (ao : Option Addr) (g c n : Nat) (wks cpy : Int) (x : Nat) (w : World) (h : EvsIn w ao g n (mkE x)) (hx1 : 1 ≤ x) (hx2 : x ≤ 1048576) :
    Calls Tryd.prog 8 #[.agg #[.int .i64 wks, .int .i64 cpy, .slice ao n c], .int .i64 (x : Int)] w fun e w' => e = .returned (.int .i64 ((x + 4 * n : Nat) : Int)) ∧ Below w.heap.size w w' := by
  have HB : Hid (EvsIn (w.alloc (.cells #[.int .i64 wks, .int .i64 cpy, .slice ao n c] 24)) ao g n (mkE x)) := h.below (bel1 _ _)
  clear h
  go_enter Tryd.func8, Tryd.ntmps8
  go_wp2_with fail
  refine (l_heldEvents ao g c n x _ HB.out hx1 hx2).mono ?_
  rintro e w2 ⟨rfl, h2⟩
  have HF : Hid (Below w.heap.size w w2) := (bel1 w _).trans (h2.mono (by simp))
  clear h2
  obtain ⟨z, hz⟩ : ∃ z : Int, z = ((x + 4 * n : Nat) : Int) := ⟨_, rfl⟩
  rw [← hz]
  have HZZ : Hid (z = ((x + 4 * n : Nat) : Int)) := hz
  have hz0 : ¬ z < 0 := by omega
  clear hz
  go_wp2
  go_ret
  exact ⟨ret_int' HZZ.out, HF.out⟩

end Go.Proofs.YthmihmnagnibmaaDoor
