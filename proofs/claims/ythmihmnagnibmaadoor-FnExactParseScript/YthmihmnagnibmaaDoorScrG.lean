/-
  Scripts: the law's look at two scripts.
-/
import Derived.Test.YthmihmnagnibmaaDoorScrF
import Derived.Deep.RegionHeld3
namespace Go.Proofs.YthmihmnagnibmaaDoor
open Go.RowKit

def evf (e : EV) : Nat → Value := t4 (.int .i64 e.kind) (.string e.name) (.string e.text) (.int .i64 e.wk)
/-- Events in a block. -/
structure EvsIn (w : World) (ao : Option Addr) (g n : Nat) (E : Nat → EV) : Prop where
  at_ : 0 < n → ao = some ⟨g, 0, none⟩
  row : 0 < n → ∃ N f, w.rowIs g 36 N f ∧ n * 4 ≤ N ∧ ∀ i j, i < n → j < 4 → f (i * 4 + j) = evf (E i) j
  len : n ≤ 1048576
theorem EvsIn.below {w w' : World} {ao : Option Addr} {g n : Nat} {E : Nat → EV} (h : EvsIn w ao g n E) (hb : Below w.heap.size w w') : EvsIn w' ao g n E :=
  ⟨h.at_, fun h0 => by obtain ⟨N, f, h1, h2, h3⟩ := h.row h0; exact ⟨N, f, h1.of_block (hb.block _ h1.lt), h2, h3⟩, h.len⟩
theorem EvsIn.four {w : World} {ao : Option Addr} {g n k : Nat} {E : Nat → EV} (h : EvsIn w ao g n E) (hk : k < n) :
    w.cell? ⟨g, k * 4, none⟩ = some (.int .i64 (E k).kind) ∧ w.cell? ⟨g, k * 4 + 1, none⟩ = some (.string (E k).name) ∧ w.cell? ⟨g, k * 4 + 2, none⟩ = some (.string (E k).text) ∧ w.cell? ⟨g, k * 4 + 3, none⟩ = some (.int .i64 (E k).wk) := by
  obtain ⟨N, f, h1, h2, h3⟩ := h.row (by omega)
  refine ⟨?_, ?_, ?_, ?_⟩
  · have := h1.cell (i := k * 4) (by omega); rw [this]; exact congrArg some (h3 k 0 hk (by omega))
  · rw [h1.cell (by omega), h3 k 1 hk (by omega)]; rfl
  · rw [h1.cell (by omega), h3 k 2 hk (by omega)]; rfl
  · rw [h1.cell (by omega), h3 k 3 hk (by omega)]; rfl

set_option maxHeartbeats 1000000 in
theorem l_eqEvent (x : EV) (w : World) : Calls Tryd.prog 33 #[.agg #[.int .i64 x.kind, .string x.name, .string x.text, .int .i64 x.wk], .agg #[.int .i64 x.kind, .string x.name, .string x.text, .int .i64 x.wk]] w fun e w' => e = .returned (.bool true) ∧ Below w.heap.size w w' := by
  go_enter Tryd.func33, Tryd.ntmps33
  go_wp2
  go_ret
  exact ⟨rfl, (bel1 w _).alloc (by simp) _⟩

set_option maxRecDepth 100000 in
set_option maxHeartbeats 2000000 in
theorem l_eqEvents (ao ao2 : Option Addr) (g c g2 c2 n : Nat) (E : Nat → EV) (w : World) (h1 : EvsIn w ao g n E) (h2 : EvsIn w ao2 g2 n E) :
    Calls Tryd.prog 17 #[.slice ao n c, .slice ao2 n c2] w fun e w' => e = .returned (.bool true) ∧ Below w.heap.size w w' := by
  have HB : Hid (∀ W, Below w.heap.size w W → EvsIn W ao g n E ∧ EvsIn W ao2 g2 n E) := fun W hW => ⟨h1.below hW, h2.below hW⟩
  have A1 := h1.at_
  have A2 := h2.at_
  have hlen := h1.len
  clear h1 h2
  go_enter Tryd.func17, Tryd.ntmps17
  go_wp2
  go_loopw [5] (fun i wr => ∃ k : Nat, k ≤ n ∧ i = .int .i64 (k : Int) ∧ Hid (Below w.heap.size w wr)) (fun i _ => n - (intOf i).toNat)
  case atStart => exact ⟨0, Nat.zero_le _, rfl, Below.refl _ _⟩
  case round =>
    obtain ⟨k, hk, rfl, HW⟩ := hrel
    by_cases hlt : k < n
    · have e1 := A1 (by omega)
      have e2 := A2 (by omega)
      subst e1 e2
      obtain ⟨x, hx⟩ : ∃ x, x = E k := ⟨_, rfl⟩
      have HZ : Hid (∀ W, Below wr.heap.size wr W → W.cell? ⟨g, k * 4, none⟩ = some (.int .i64 (x).kind) ∧ W.cell? ⟨g, k * 4 + 1, none⟩ = some (.string (x).name) ∧ W.cell? ⟨g, k * 4 + 2, none⟩ = some (.string (x).text) ∧ W.cell? ⟨g, k * 4 + 3, none⟩ = some (.int .i64 (x).wk) ∧ W.cell? ⟨g2, k * 4, none⟩ = some (.int .i64 (x).kind) ∧ W.cell? ⟨g2, k * 4 + 1, none⟩ = some (.string (x).name) ∧ W.cell? ⟨g2, k * 4 + 2, none⟩ = some (.string (x).text) ∧ W.cell? ⟨g2, k * 4 + 3, none⟩ = some (.int .i64 (x).wk)) := fun W hW => by
        obtain ⟨q1, q2⟩ := HB.out W (HW.out.trans (hW.mono HW.out.size))
        obtain ⟨a0, a1, a2, a3⟩ := q1.four hlt
        obtain ⟨b0, b1, b2, b3⟩ := q2.four hlt
        rw [hx]
        exact ⟨a0, a1, a2, a3, b0, b1, b2, b3⟩
      have CE : Hid (∀ W, Below wr.heap.size wr W → Calls Tryd.prog 33 #[.agg #[.int .i64 x.kind, .string x.name, .string x.text, .int .i64 x.wk], .agg #[.int .i64 x.kind, .string x.name, .string x.text, .int .i64 x.wk]] W fun e w' => e = .returned (.bool true) ∧ Hid (Below wr.heap.size wr w')) := fun W hW => (l_eqEvent x W).mono fun e w' ⟨he, hb⟩ => ⟨he, hW.trans (hb.mono hW.size)⟩
      clear hx
      have hki : (k : Int) < (n : Int) := by omega
      have hk0 : (0 : Int) ≤ (k : Int) := by omega
      obtain ⟨a0, a1, a2, a3, b0, b1, b2, b3⟩ := HZ.out wr (Below.refl _ _)
      go_wp2_with fail
      go_region_held3 (fun w' => w'.cell? ⟨g, k * 4, none⟩ = some (.int .i64 (x).kind) ∧ w'.cell? ⟨g, k * 4 + 1, none⟩ = some (.string (x).name) ∧ w'.cell? ⟨g, k * 4 + 2, none⟩ = some (.string (x).text) ∧ w'.cell? ⟨g, k * 4 + 3, none⟩ = some (.int .i64 (x).wk) ∧ w'.cell? ⟨g2, k * 4, none⟩ = some (.int .i64 (x).kind) ∧ w'.cell? ⟨g2, k * 4 + 1, none⟩ = some (.string (x).name) ∧ w'.cell? ⟨g2, k * 4 + 2, none⟩ = some (.string (x).text) ∧ w'.cell? ⟨g2, k * 4 + 3, none⟩ = some (.int .i64 (x).wk)) (go_keep)
        (first | (go_at_call 33; (with_reducible refine (CE.out _ (Below.refl _ _).drew).mono ?_); rintro e w3 ⟨rfl, H3⟩; obtain ⟨a0x, a1x, a2x, a3x, b0x, b1x, b2x, b3x⟩ := HZ.out w3 H3.out))
      all_goals
        have HW3 : Hid (Below w.heap.size w w3) := HW.out.trans (H3.out.mono HW.out.size)
        clear a0 a1 a2 a3 b0 b1 b2 b3 a0x a1x a2x a3x b0x b1x b2x b3x CE HZ H3
        go_wp2
        go_roundw
        case rel => exact ⟨k + 1, by omega, by go_num, HW3⟩
        case measure => simp [intOf]; omega
    · go_wp2
      go_ret
      exact ⟨rfl, HW.out⟩

set_option maxRecDepth 100000 in
set_option maxHeartbeats 1000000 in
theorem l_eqScript (ao ao2 : Option Addr) (g c g2 c2 n : Nat) (wks cpy : Int) (E : Nat → EV) (w : World) (h1 : EvsIn w ao g n E) (h2 : EvsIn w ao2 g2 n E) :
    Calls Tryd.prog 6 #[.agg #[.int .i64 wks, .int .i64 cpy, .slice ao n c], .agg #[.int .i64 wks, .int .i64 cpy, .slice ao2 n c2]] w fun e w' => e = .returned (.bool true) ∧ Below w.heap.size w w' := by
  have HB : Hid (∀ W, Below w.heap.size w W → EvsIn W ao g n E ∧ EvsIn W ao2 g2 n E) := fun W hW => ⟨h1.below hW, h2.below hW⟩
  clear h1 h2
  have BB : Hid (Below w.heap.size w ((w.alloc (.cells #[.int .i64 wks, .int .i64 cpy, .slice ao n c] 24)).alloc (.cells #[.int .i64 wks, .int .i64 cpy, .slice ao2 n c2] 24))) := (bel1 w _).alloc (by simp) _
  go_enter Tryd.func6, Tryd.ntmps6
  go_wp2_with fail
  refine (l_eqEvents ao ao2 g c g2 c2 n E _ (HB.out _ BB.out).1 (HB.out _ BB.out).2).mono ?_
  rintro e w3 ⟨rfl, hb3⟩
  have H3 : Hid (Below w.heap.size w w3) := BB.out.trans (hb3.mono BB.out.size)
  clear hb3
  go_wp2
  go_ret
  exact ⟨rfl, H3.out⟩

end Go.Proofs.YthmihmnagnibmaaDoor
