/-
  Tables: the contracts of the functions that count.
-/
import Derived.Test.YtefplfcfoapnjaaTabEq
namespace Go.Proofs.Ytefplfcfoapnjaa
open Go.RowKit

/-- What a count gives: it never grows, and where it is not below 0 the thing was small. -/
structure Left (L r : Int) (q : Prop) : Prop where
  lo : -1 ≤ r
  hi : r ≤ L
  ok : 0 ≤ r → q

theorem Left.no {L : Int} {q : Prop} (h : 0 ≤ L) : Left L (-1) q := ⟨by omega, by omega, fun h => by omega⟩

/-- A small slot. -/
def small (d : SD) : Prop := d.m.size ≤ 1048576 ∧ d.v.size ≤ 1048576 ∧ d.n ≤ 1048576 ∧ ∀ j, j < d.n → (d.dm j).size ≤ 1048576

set_option maxHeartbeats 1000000 in
theorem c12 (k : Int) (s : ByteArray) (L : Int) (w : World) (hL : 0 ≤ L) (hL2 : L ≤ 1048576) (hs : s.size ≤ 9223372036854775807) :
    Calls Try.prog 12 #[.agg #[.int .i64 k, .string s], .int .i64 L] w fun e w' => ∃ r, e = .returned (.int .i64 r) ∧ Left L r (s.size ≤ 1048576) ∧ Below w.heap.size w w' := by
  by_cases h : L - s.size < 0
  · go_enter Try.func12, Try.ntmps12
    go_wp2
    go_ret
    exact ⟨-1, rfl, Left.no hL, bel1 _ _⟩
  · go_enter Try.func12, Try.ntmps12
    go_wp2
    go_ret
    exact ⟨L - s.size, rfl, ⟨by omega, by omega, fun _ => by omega⟩, bel1 _ _⟩

set_option maxHeartbeats 1000000 in
theorem c67 (ao : Option Addr) (b o n c : Nat) (K : Nat → Int) (M : Nat → ByteArray) (L : Int) (w : World) (hL : 0 ≤ L) (hL2 : L ≤ 1048576) (h1 : KeysAt w ao b o n K M) :
    Calls Try.prog 67 #[.slice ao n c, .int .i64 L] w fun e w' => ∃ r, e = .returned (.int .i64 r) ∧ Left L r (n ≤ 1048576 ∧ ∀ i, i < n → (M i).size ≤ 1048576) ∧ Below w.heap.size w w' := by
  have HB : Hid (∀ w', Below w.heap.size w w' → KeysAt w' ao b o n K M) := fun w' hb => h1.below hb
  have hn := h1.len
  have A1 := h1.at_
  clear h1
  by_cases h : L - n < 0
  · go_enter Try.func67, Try.ntmps67
    go_wp2
    go_ret
    exact ⟨-1, rfl, Left.no hL, Below.refl _ _⟩
  · go_enter Try.func67, Try.ntmps67
    go_wp2
    go_loopw [1, 5] (fun l i wr => ∃ (k : Nat) (x : Int), k ≤ n ∧ i = .int .i64 k ∧ l = .int .i64 x ∧ 0 ≤ x ∧ x ≤ L ∧ Below w.heap.size w wr ∧ Hid (∀ i, i < k → (M i).size ≤ 1048576)) (fun _ i _ => n - (intOf i).toNat)
    case atStart => exact ⟨0, L - n, Nat.zero_le _, rfl, rfl, by omega, by omega, Below.refl _ _, fun i hi => absurd hi (Nat.not_lt_zero _)⟩
    case round =>
      obtain ⟨k, x, hk, rfl, rfl, hx, hx2, hb, HA⟩ := hrel
      by_cases hlt : k < n
      · have e1 := A1 (by omega)
        have q1 := HB.out wr hb
        have g0 := q1.c0 k hlt
        have g1 := q1.c1 k hlt
        have z1 := q1.size k hlt
        clear q1 HB
        subst e1
        go_wp2_with fail
        refine (c12 (K k) (M k) x _ hx (by omega) z1).mono ?_
        rintro e w' ⟨r, rfl, hr, hb'⟩
        by_cases h3 : r < 0
        · go_wp2
          go_ret
          exact ⟨-1, rfl, Left.no hL, hb.trans (hb'.mono hb.size)⟩
        · have r1 := hr.hi
          have HR : Hid ((M k).size ≤ 1048576) := hr.ok (by omega)
          clear hr
          go_wp2
          go_roundw
          case rel => exact ⟨k + 1, r, by omega, by go_num, rfl, by omega, by omega, hb.trans (hb'.mono hb.size), fun i hi => by
            by_cases e : i = k
            · subst e; exact HR.out
            · exact HA.out i (by omega)⟩
          case measure => simp [intOf]; omega
      · go_wp2
        go_ret
        exact ⟨x, rfl, ⟨by omega, by omega, fun _ => ⟨by omega, fun i hi => HA.out i (by omega)⟩⟩, hb⟩

set_option maxHeartbeats 1000000 in
theorem c46 (p : SP) (d : SD) (L : Int) (w : World) (hL : 0 ≤ L) (hL2 : L ≤ 1048576) (h1 : SlotAt w p d) :
    Calls Try.prog 46 #[sdv p d, .int .i64 L] w fun e w' => ∃ r, e = .returned (.int .i64 r) ∧ Left L r (small d) ∧ Below w.heap.size w w' := by
  have HB : Hid (∀ w', Below w.heap.size w w' → SlotAt w' p d) := fun w' hb => h1.below hb
  have hsm := h1.sm
  have hsv := h1.sv
  clear h1
  unfold sdv
  go_enter Try.func46, Try.ntmps46
  go_wp2_with fail
  refine (c12 d.k d.m L _ hL hL2 hsm).mono ?_
  rintro e w1 ⟨r, rfl, hr, hb1⟩
  have B1 := (bel1 w _).trans (hb1.mono (by simp))
  have x3 : w1.cell? ⟨w.heap.size, 3, none⟩ = some (.string d.v) := by rw [hb1.cell (p := ⟨w.heap.size, 3, none⟩) (by simp)]; simp
  have x4 : w1.cell? ⟨w.heap.size, 4, none⟩ = some (.slice p.a d.n p.c) := by rw [hb1.cell (p := ⟨w.heap.size, 4, none⟩) (by simp)]; simp
  clear hb1
  by_cases h2 : r < 0
  · go_wp2
    go_ret
    exact ⟨-1, rfl, Left.no hL, B1⟩
  have r1 := hr.hi
  have HR := hr.ok (by omega)
  clear hr
  by_cases h3 : r - d.v.size < 0
  · go_wp2
    go_ret
    exact ⟨-1, rfl, Left.no hL, B1⟩
  go_wp2_with fail
  refine (c67 p.a p.b p.o d.n p.c d.dk d.dm (r - d.v.size) _ (by omega) (by omega) (by exact (HB.out _ B1).keys)).mono ?_
  rintro e w2 ⟨r', rfl, hr', hb2⟩
  have B2 := B1.trans (hb2.mono B1.size)
  by_cases h4 : r' < 0
  · go_wp2
    go_ret
    exact ⟨-1, rfl, Left.no hL, B2⟩
  · have t1 := hr'.hi
    have HT : Hid (d.n ≤ 1048576 ∧ ∀ i, i < d.n → (d.dm i).size ≤ 1048576) := hr'.ok (by omega)
    clear hr'
    go_wp2
    go_ret
    exact ⟨r', rfl, ⟨by omega, by omega, fun _ => ⟨HR, by omega, HT.out.1, HT.out.2⟩⟩, B2⟩

set_option maxHeartbeats 2000000 in
theorem c24 (ao : Option Addr) (b o n c : Nat) (p : Nat → SP) (D : Nat → SD) (L : Int) (w : World) (hL : 0 ≤ L) (hL2 : L ≤ 1048576) (h1 : SlotsAt w ao b o n p D) :
    Calls Try.prog 24 #[.slice ao n c, .int .i64 L] w fun e w' => ∃ r, e = .returned (.int .i64 r) ∧ Left L r (n ≤ 1048576 ∧ ∀ i, i < n → small (D i)) ∧ Below w.heap.size w w' := by
  have HB : Hid (∀ w', Below w.heap.size w w' → SlotsAt w' ao b o n p D) := fun w' hb => h1.below hb
  have hn := h1.len
  have A1 := h1.at_
  clear h1
  by_cases h : L - n < 0
  · go_enter Try.func24, Try.ntmps24
    go_wp2
    go_ret
    exact ⟨-1, rfl, Left.no hL, Below.refl _ _⟩
  · go_enter Try.func24, Try.ntmps24
    go_wp2
    go_loopw [1, 5] (fun l i wr => ∃ (k : Nat) (x : Int), k ≤ n ∧ i = .int .i64 k ∧ l = .int .i64 x ∧ 0 ≤ x ∧ x ≤ L ∧ Below w.heap.size w wr ∧ Hid (∀ i, i < k → small (D i))) (fun _ i _ => n - (intOf i).toNat)
    case atStart => exact ⟨0, L - n, Nat.zero_le _, rfl, rfl, by omega, by omega, Below.refl _ _, fun i hi => absurd hi (Nat.not_lt_zero _)⟩
    case round =>
      obtain ⟨k, x, hk, rfl, rfl, hx, hx2, hb, HA⟩ := hrel
      by_cases hlt : k < n
      · have e1 := A1 (by omega)
        have q1 := HB.out wr hb
        obtain ⟨x0, x1, x2, x3, x4, x5, x6, x7, x8⟩ := q1.nine k hlt
        have N1 := q1.slot k hlt
        clear q1 HB
        subst e1
        go_wp2_with fail
        refine (c46 (p k) (D k) x _ hx (by omega) N1).mono ?_
        rintro e w' ⟨r, rfl, hr, hb'⟩
        by_cases h3 : r < 0
        · go_wp2
          go_ret
          exact ⟨-1, rfl, Left.no hL, hb.trans (hb'.mono hb.size)⟩
        · have r1 := hr.hi
          have HR : Hid (small (D k)) := hr.ok (by omega)
          clear hr
          go_wp2
          go_roundw
          case rel => exact ⟨k + 1, r, by omega, by go_num, rfl, by omega, by omega, hb.trans (hb'.mono hb.size), fun i hi => by
            by_cases e : i = k
            · subst e; exact HR.out
            · exact HA.out i (by omega)⟩
          case measure => simp [intOf]; omega
      · go_wp2
        go_ret
        exact ⟨x, rfl, ⟨by omega, by omega, fun _ => ⟨by omega, fun i hi => HA.out i (by omega)⟩⟩, hb⟩

set_option maxHeartbeats 1000000 in
theorem c6 (ao : Option Addr) (b o n c : Nat) (p : Nat → SP) (D : Nat → SD) (L : Int) (w : World) (hL : 0 ≤ L) (hL2 : L ≤ 1048576) (h1 : SlotsAt w ao b o n p D) :
    Calls Try.prog 6 #[.agg #[.slice ao n c], .int .i64 L] w fun e w' => ∃ r, e = .returned (.int .i64 r) ∧ Left L r (n ≤ 1048576 ∧ ∀ i, i < n → small (D i)) ∧ Below w.heap.size w w' := by
  have HB : Hid (∀ w', Below w.heap.size w w' → SlotsAt w' ao b o n p D) := fun w' hb => h1.below hb
  clear h1
  go_enter Try.func6, Try.ntmps6
  go_wp2_with fail
  refine (c24 ao b o n c p D L _ hL hL2 (by exact HB.out _ (bel1 _ _))).mono ?_
  rintro e w' ⟨r, rfl, hr, hb⟩
  have hb2 := (bel1 w _).trans (hb.mono (by simp))
  by_cases h3 : r < 0
  · go_wp2
    go_ret
    exact ⟨-1, rfl, Left.no hL, hb2⟩
  · go_wp2
    go_ret
    exact ⟨r, rfl, hr, hb2⟩

end Go.Proofs.Ytefplfcfoapnjaa
