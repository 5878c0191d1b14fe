/-
  Tables: the contracts of the functions that compare and count.
-/
import Derived.Test.YtefplfcfoapnjaaProg
import Derived.Test.YtefplfcfoapnjaaTab
import Derived.WalkKit
import Derived.WalkSpells
import Derived.WalkLawsBesides
import Derived.Deep.QuietTactic
import Derived.BigQuiet
import Derived.Deep.RegionWith
namespace Go.Proofs.Ytefplfcfoapnjaa
open Go.RowKit

theorem bel1 (w : World) (o1 : Obj) : Below w.heap.size w (w.alloc o1) := (Below.refl _ _).alloc (Nat.le_refl _) _
theorem bel2 (w : World) (o1 o2 : Obj) : Below w.heap.size w ((w.alloc o1).alloc o2) := (bel1 w o1).alloc (by simp) _
theorem bel3 (w : World) (o1 o2 o3 : Obj) : Below w.heap.size w (((w.alloc o1).alloc o2).alloc o3) := (bel2 w o1 o2).alloc (by simp; omega) _

/-- Nine values by their place. -/
def v9 (a0 a1 a2 a3 a4 a5 a6 a7 a8 : Value) : Nat → Value
  | 0 => a0
  | 1 => a1
  | 2 => a2
  | 3 => a3
  | 4 => a4
  | 5 => a5
  | 6 => a6
  | 7 => a7
  | _ => a8

theorem row9 (w : World) (a0 a1 a2 a3 a4 a5 a6 a7 a8 : Value) (t : TypeId) : (w.alloc (.cells #[a0, a1, a2, a3, a4, a5, a6, a7, a8] t)).rowIs w.heap.size t 9 (v9 a0 a1 a2 a3 a4 a5 a6 a7 a8) :=
  World.rowIs_alloc w #[a0, a1, a2, a3, a4, a5, a6, a7, a8] t _ (fun i hi => by
    match i, hi with
    | 0, _ => rfl
    | 1, _ => rfl
    | 2, _ => rfl
    | 3, _ => rfl
    | 4, _ => rfl
    | 5, _ => rfl
    | 6, _ => rfl
    | 7, _ => rfl
    | 8, _ => rfl)

theorem nine_cells {w : World} {B : Nat} {t : TypeId} {a0 a1 a2 a3 a4 a5 a6 a7 a8 : Value} (h : w.rowIs B t 9 (v9 a0 a1 a2 a3 a4 a5 a6 a7 a8)) :
    w.cell? ⟨B, 0, none⟩ = some a0 ∧ w.cell? ⟨B, 1, none⟩ = some a1 ∧ w.cell? ⟨B, 2, none⟩ = some a2 ∧ w.cell? ⟨B, 3, none⟩ = some a3 ∧ w.cell? ⟨B, 4, none⟩ = some a4 ∧
    w.cell? ⟨B, 5, none⟩ = some a5 ∧ w.cell? ⟨B, 6, none⟩ = some a6 ∧ w.cell? ⟨B, 7, none⟩ = some a7 ∧ w.cell? ⟨B, 8, none⟩ = some a8 :=
  ⟨h.cell (i := 0) (by omega), h.cell (i := 1) (by omega), h.cell (i := 2) (by omega), h.cell (i := 3) (by omega), h.cell (i := 4) (by omega), h.cell (i := 5) (by omega), h.cell (i := 6) (by omega), h.cell (i := 7) (by omega), h.cell (i := 8) (by omega)⟩

set_option maxHeartbeats 1000000 in
theorem c41 (k : Int) (s : ByteArray) (w : World) :
    Calls Try.prog 41 #[.agg #[.int .i64 k, .string s], .agg #[.int .i64 k, .string s]] w fun e w' => e = .returned (.bool true) ∧ Below w.heap.size w w' := by
  go_enter Try.func41, Try.ntmps41
  go_wp2
  go_ret
  exact ⟨rfl, bel2 _ _ _⟩

set_option maxHeartbeats 2000000 in
theorem c42 (ao ao' : Option Addr) (b o c b' o' c' n : Nat) (K : Nat → Int) (M : Nat → ByteArray) (w : World) (h1 : KeysAt w ao b o n K M) (h2 : KeysAt w ao' b' o' n K M) :
    Calls Try.prog 42 #[.slice ao n c, .slice ao' n c'] w fun e w' => e = .returned (.bool true) ∧ Below w.heap.size w w' := by
  have hlen := h1.len
  have HB : Hid (∀ w', Below w.heap.size w w' → KeysAt w' ao b o n K M ∧ KeysAt w' ao' b' o' n K M) := fun w' hb => ⟨h1.below hb, h2.below hb⟩
  have A1 := h1.at_
  have A2 := h2.at_
  clear h1 h2
  go_enter Try.func42, Try.ntmps42
  go_wp2
  go_loopw [5] (fun i wr => ∃ k : Nat, k ≤ n ∧ i = .int .i64 k ∧ Below w.heap.size w wr) (fun i _ => n - (intOf i).toNat)
  case atStart => exact ⟨0, Nat.zero_le _, rfl, Below.refl _ _⟩
  case round =>
    obtain ⟨k, hk, rfl, hb⟩ := hrel
    by_cases hlt : k < n
    · have e1 := A1 (by omega)
      have e2 := A2 (by omega)
      obtain ⟨q1, q2⟩ := HB.out wr hb
      have g0 := q1.c0 k hlt
      have g1 := q1.c1 k hlt
      have f0 := q2.c0 k hlt
      have f1 := q2.c1 k hlt
      clear q1 q2 HB
      subst e1 e2
      go_wp2
      go_region_with (go_at_call 41; refine (c41 (K k) (M k) _).mono ?_; rintro e w' ⟨rfl, hb'⟩)
      all_goals
        go_wp2
        go_roundw
        case rel => exact ⟨k + 1, by omega, by go_num, hb.trans (Below.trans (Below.refl _ _).drew (hb'.mono hb.size))⟩
        case measure => simp [intOf]; omega
    · go_wp2
      go_ret
      exact ⟨rfl, hb⟩

set_option maxHeartbeats 2000000 in
theorem c20 (p p' : SP) (d : SD) (w : World) (h1 : SlotAt w p d) (h2 : SlotAt w p' d) :
    Calls Try.prog 20 #[sdv p d, sdv p' d] w fun e w' => e = .returned (.bool true) ∧ Below w.heap.size w w' := by
  have HB : Hid (∀ w', Below w.heap.size w w' → SlotAt w' p d ∧ SlotAt w' p' d) := fun w' hb => ⟨h1.below hb, h2.below hb⟩
  clear h1 h2
  unfold sdv
  go_enter Try.func20, Try.ntmps20
  go_wp2_with fail
  refine (c41 d.k d.m _).mono ?_
  rintro e w1 ⟨rfl, hb1⟩
  have B1 := (bel2 w _ _).trans (hb1.mono (by simp; omega))
  obtain ⟨x0, x1, x2, x3, x4, x5, x6, x7, x8⟩ := ((row9 w (.int .i64 d.k) (.string d.m) (.bool d.has) (.string d.v) (.slice p.a d.n p.c) (.int .i64 d.ver) (.int .i64 d.chg) (.int .i64 d.own) (.int .i64 d.sin) 47).alloc (.cells #[.int .i64 d.k, .string d.m, .bool d.has, .string d.v, .slice p'.a d.n p'.c, .int .i64 d.ver, .int .i64 d.chg, .int .i64 d.own, .int .i64 d.sin] 47)) |>.of_block (hb1.block _ (by simp; omega)) |> nine_cells
  obtain ⟨y0, y1, y2, y3, y4, y5, y6, y7, y8⟩ := (row9 (w.alloc (.cells #[.int .i64 d.k, .string d.m, .bool d.has, .string d.v, .slice p.a d.n p.c, .int .i64 d.ver, .int .i64 d.chg, .int .i64 d.own, .int .i64 d.sin] 47)) (.int .i64 d.k) (.string d.m) (.bool d.has) (.string d.v) (.slice p'.a d.n p'.c) (.int .i64 d.ver) (.int .i64 d.chg) (.int .i64 d.own) (.int .i64 d.sin) 47) |>.of_block (hb1.block _ (by simp)) |> nine_cells
  simp only [World.size_alloc] at y0 y1 y2 y3 y4 y5 y6 y7 y8
  have z1 : w.heap.size + 1 < w1.heap.size := World.block_lt_of_cell? _ _ y0
  clear hb1
  go_wp2_with fail
  refine (c42 p.a p'.a p.b p.o p.c p'.b p'.o p'.c d.n d.dk d.dm _ (by exact (HB.out _ B1).1.keys) (by exact (HB.out _ B1).2.keys)).mono ?_
  rintro e w2 ⟨rfl, hb2⟩
  have B2 := B1.trans (hb2.mono B1.size)
  rw [← hb2.cell (p := ⟨w.heap.size, 5, none⟩) (by show w.heap.size < _; omega)] at x5
  rw [← hb2.cell (p := ⟨w.heap.size, 6, none⟩) (by show w.heap.size < _; omega)] at x6
  rw [← hb2.cell (p := ⟨w.heap.size, 7, none⟩) (by show w.heap.size < _; omega)] at x7
  rw [← hb2.cell (p := ⟨w.heap.size, 8, none⟩) (by show w.heap.size < _; omega)] at x8
  rw [← hb2.cell (p := ⟨w.heap.size + 1, 5, none⟩) z1] at y5
  rw [← hb2.cell (p := ⟨w.heap.size + 1, 6, none⟩) z1] at y6
  rw [← hb2.cell (p := ⟨w.heap.size + 1, 7, none⟩) z1] at y7
  rw [← hb2.cell (p := ⟨w.heap.size + 1, 8, none⟩) z1] at y8
  clear x0 x1 x2 x3 x4 y0 y1 y2 y3 y4 hb2
  go_wp2
  go_ret
  exact ⟨rfl, B2⟩

set_option maxHeartbeats 4000000 in
theorem c29 (ao ao' : Option Addr) (b o c b' o' c' n : Nat) (p p' : Nat → SP) (D : Nat → SD) (w : World) (h1 : SlotsAt w ao b o n p D) (h2 : SlotsAt w ao' b' o' n p' D) :
    Calls Try.prog 29 #[.slice ao n c, .slice ao' n c'] w fun e w' => e = .returned (.bool true) ∧ Below w.heap.size w w' := by
  have hlen := h1.len
  have HB : Hid (∀ w', Below w.heap.size w w' → SlotsAt w' ao b o n p D ∧ SlotsAt w' ao' b' o' n p' D) := fun w' hb => ⟨h1.below hb, h2.below hb⟩
  have A1 := h1.at_
  have A2 := h2.at_
  clear h1 h2
  go_enter Try.func29, Try.ntmps29
  go_wp2
  go_loopw [5] (fun i wr => ∃ k : Nat, k ≤ n ∧ i = .int .i64 k ∧ Below w.heap.size w wr) (fun i _ => n - (intOf i).toNat)
  case atStart => exact ⟨0, Nat.zero_le _, rfl, Below.refl _ _⟩
  case round =>
    obtain ⟨k, hk, rfl, hb⟩ := hrel
    by_cases hlt : k < n
    · have e1 := A1 (by omega)
      have e2 := A2 (by omega)
      obtain ⟨q1, q2⟩ := HB.out wr hb
      obtain ⟨x0, x1, x2, x3, x4, x5, x6, x7, x8⟩ := q1.nine k hlt
      obtain ⟨y0, y1, y2, y3, y4, y5, y6, y7, y8⟩ := q2.nine k hlt
      have N1 : SlotAt wr.drew (p k) (D k) := (q1.slot k hlt).below (Below.refl _ _).drew
      have N2 : SlotAt wr.drew (p' k) (D k) := (q2.slot k hlt).below (Below.refl _ _).drew
      clear q1 q2 HB
      subst e1 e2
      go_wp2
      go_region_with (go_at_call 20; refine (c20 (p k) (p' k) (D k) _ N1 N2).mono ?_; rintro e w' ⟨rfl, hb'⟩)
      all_goals
        go_wp2
        go_roundw
        case rel => exact ⟨k + 1, by omega, by go_num, hb.trans (Below.trans (Below.refl _ _).drew (hb'.mono hb.size))⟩
        case measure => simp [intOf]; omega
    · go_wp2
      go_ret
      exact ⟨rfl, hb⟩

set_option maxHeartbeats 1000000 in
theorem c10 (ao ao' : Option Addr) (b o c b' o' c' n : Nat) (p p' : Nat → SP) (D : Nat → SD) (w : World) (h1 : SlotsAt w ao b o n p D) (h2 : SlotsAt w ao' b' o' n p' D) :
    Calls Try.prog 10 #[.agg #[.slice ao n c], .agg #[.slice ao' n c']] w fun e w' => e = .returned (.bool true) ∧ Below w.heap.size w w' := by
  have HB : Hid (∀ w', Below w.heap.size w w' → SlotsAt w' ao b o n p D ∧ SlotsAt w' ao' b' o' n p' D) := fun w' hb => ⟨h1.below hb, h2.below hb⟩
  clear h1 h2
  go_enter Try.func10, Try.ntmps10
  go_wp2_with fail
  refine (c29 ao ao' b o c b' o' c' n p p' D _ (by exact (HB.out _ (bel2 _ _ _)).1) (by exact (HB.out _ (bel2 _ _ _)).2)).mono ?_
  rintro e w' ⟨rfl, hb⟩
  go_wp2
  go_ret
  exact ⟨rfl, (bel2 _ _ _).trans (hb.mono (by simp; omega))⟩

end Go.Proofs.Ytefplfcfoapnjaa
