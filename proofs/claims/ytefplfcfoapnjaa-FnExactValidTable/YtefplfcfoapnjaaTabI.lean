/-
  Tables: the contracts of the program's small functions.
-/
import Derived.Test.YtefplfcfoapnjaaTabEq
import Derived.Test.YtefplfcfoapnjaaNames2
import Derived.Lib.Bytealg
import Derived.Deep.RegionHeld3
namespace Go.Proofs.Ytefplfcfoapnjaa
open Go.RowKit

theorem kvi_no {k : Int} {m : ByteArray} (h : ¬ (1 ≤ k ∧ k ≤ 3)) : kv k m = false := by unfold kv; rw [decide_eq_false h, Bool.false_and]
theorem kvi_yes {k : Int} {m : ByteArray} (h : 1 ≤ k ∧ k ≤ 3) : kv k m = gn m := by unfold kv; rw [decide_eq_true h, Bool.true_and]

set_option maxHeartbeats 1000000 in
theorem c55 (k : Int) (m : ByteArray) (w : World) (hs : m.size ≤ 9223372036854775807) :
    Calls Try.prog 55 #[.agg #[.int .i64 k, .string m]] w fun e w' => e = .returned (.bool (kv k m)) ∧ Below w.heap.size w w' := by
  by_cases h : 1 ≤ k
  · by_cases h' : k ≤ 3
    · have HV : Hid (kv k m = gn m) := kvi_yes ⟨h, h'⟩
      go_enter Try.func55, Try.ntmps55
      go_wp2_with (go_at_call 75; refine (n41 _ _ hs).mono ?_; rintro e w' ⟨rfl, rfl⟩)
      go_ret
      exact ⟨ret_bool HV.out.symm, bel1 _ _⟩
    · have HV : Hid (kv k m = false) := kvi_no (fun q => h' q.2)
      go_enter Try.func55, Try.ntmps55
      go_wp2
      go_ret
      exact ⟨ret_bool HV.out.symm, bel1 _ _⟩
  · have HV : Hid (kv k m = false) := kvi_no (fun q => h q.1)
    go_enter Try.func55, Try.ntmps55
    go_wp2
    go_ret
    exact ⟨ret_bool HV.out.symm, bel1 _ _⟩

set_option maxHeartbeats 1000000 in
theorem c56 (k : Int) (w : World) :
    Calls Try.prog 56 #[.int .i64 k] w fun e w' => e = .returned (.bool (decide (0 ≤ k ∧ k < 16))) ∧ w' = w := by
  by_cases h : 0 ≤ k <;> by_cases h' : k < 16
  all_goals
    go_enter Try.func56, Try.ntmps56
    go_wp2
    go_ret
    exact ⟨ret_bool (by simp [h, h']), rfl⟩

set_option maxHeartbeats 1000000 in
theorem c57 (k : Int) (w : World) :
    Calls Try.prog 57 #[.int .i64 k] w fun e w' => e = .returned (.bool (decide (1 ≤ k))) ∧ w' = w := by
  go_enter Try.func57, Try.ntmps57
  go_wp2
  go_ret
  exact ⟨rfl, rfl⟩

set_option maxHeartbeats 1000000 in
theorem c85 (k : Int) (m : ByteArray) (w : World) (hs : m.size ≤ 9223372036854775807) :
    Calls Try.prog 85 #[.agg #[.int .i64 k, .string m]] w fun e w' => e = .returned (.bool (!kv k m)) ∧ Below w.heap.size w w' := by
  go_enter Try.func85, Try.ntmps85
  go_wp2_with fail
  refine (c55 k m _ hs).mono ?_
  rintro e w' ⟨rfl, hb'⟩
  go_wp2
  go_ret
  exact ⟨rfl, (bel1 w _).trans (hb'.mono (by simp))⟩

set_option maxHeartbeats 1000000 in
theorem c89 (k : Int) (w : World) :
    Calls Try.prog 89 #[.int .i64 k] w fun e w' => e = .returned (.bool false) ∧ w' = w := by
  go_enter Try.func89, Try.ntmps89
  go_wp2
  go_ret
  exact ⟨ret_bool (by simp), rfl⟩

/-- What a comparison says. -/
def cmpI (a b : Int) : Int := if a < b then -1 else if b < a then 1 else 0
theorem ret_int {a b : Int} (h : a = b) : Ending.returned (.int .i64 a) = .returned (.int .i64 b) := by rw [h]

set_option maxHeartbeats 1000000 in
theorem c82 (a b : Int) (w : World) :
    Calls Try.prog 82 #[.int .i64 a, .int .i64 b] w fun e w' => e = .returned (.int .i64 (cmpI a b)) ∧ w' = w := by
  by_cases h : a < b
  · have HV : Hid (cmpI a b = -1) := by show cmpI a b = -1; unfold cmpI; rw [if_pos h]
    go_enter Try.func82, Try.ntmps82
    go_wp2_with (go_at_call 89; refine (c89 _ _).mono ?_; rintro e w' ⟨rfl, rfl⟩)
    go_ret
    exact ⟨ret_int HV.out.symm, rfl⟩
  · by_cases h' : b < a
    · have HV : Hid (cmpI a b = 1) := by show cmpI a b = 1; unfold cmpI; rw [if_neg h, if_pos h']
      go_enter Try.func82, Try.ntmps82
      go_wp2_with (go_at_call 89; refine (c89 _ _).mono ?_; rintro e w' ⟨rfl, rfl⟩)
      go_ret
      exact ⟨ret_int HV.out.symm, rfl⟩
    · have HV : Hid (cmpI a b = 0) := by show cmpI a b = 0; unfold cmpI; rw [if_neg h, if_neg h']
      go_enter Try.func82, Try.ntmps82
      go_wp2_with (go_at_call 89; refine (c89 _ _).mono ?_; rintro e w' ⟨rfl, rfl⟩)
      go_ret
      exact ⟨ret_int HV.out.symm, rfl⟩

/-- What the comparison of two texts says. -/
def cmpS (a b : ByteArray) : Int := Lib.compareBytes a.data.toList b.data.toList
/-- The first that is not 0. -/
def or2 (a b : Int) : Int := if a = 0 then b else a
/-- What the comparison of two keys says. -/
def ck (k : Int) (m : ByteArray) (k' : Int) (m' : ByteArray) : Int := or2 (cmpI k k') (cmpS m m')

set_option maxHeartbeats 1000000 in
set_option maxRecDepth 100000 in
theorem c90 (a b : ByteArray) (w : World) :
    Calls Try.prog 90 #[.string a, .string b] w fun e w' => e = .returned (.int .i64 (cmpS a b)) ∧ w' = w := by
  go_enter Try.func90, Try.ntmps90
  go_wp2
  rw [run_callFunc_extern Try.func92 (by kernel_rfl) (by kernel_rfl) (by kernel_rfl) (e := Extern.BytealgCompare.compare) (by kernel_rfl), Lib.run_compareString]
  simp only [Result.andThen]
  rw [Oper.upon_value]
  go_wp2
  go_ret
  exact ⟨rfl, rfl⟩

set_option maxHeartbeats 1000000 in
theorem c83 (a b : ByteArray) (w : World) :
    Calls Try.prog 83 #[.string a, .string b] w fun e w' => e = .returned (.int .i64 (cmpS a b)) ∧ w' = w := by
  go_enter Try.func83, Try.ntmps83
  go_wp2_with (go_at_call 90; refine (c90 _ _ _).mono ?_; rintro e w' ⟨rfl, rfl⟩)
  go_ret
  exact ⟨rfl, rfl⟩

set_option maxHeartbeats 2000000 in
theorem c81 (a b : Int) (B c : Nat) (w : World) (h0 : w.cell? ⟨B, 0, none⟩ = some (.int .i64 a)) (h1 : w.cell? ⟨B, 1, none⟩ = some (.int .i64 b)) :
    Calls Try.prog 81 #[.slice (some ⟨B, 0, none⟩) 2 c] w fun e w' => e = .returned (.int .i64 (or2 a b)) ∧ Below w.heap.size w w' := by
  go_enter Try.func81, Try.ntmps81
  go_wp2
  go_loop [8] (fun i => ∃ k : Nat, k ≤ 2 ∧ i = .int .i64 k ∧ Hid ((1 ≤ k → a = 0) ∧ (2 ≤ k → b = 0))) (fun i => 2 - (intOf i).toNat)
  case atStart => exact ⟨0, Nat.zero_le _, rfl, fun h => by omega, fun h => by omega⟩
  case round =>
    obtain ⟨k, hk, rfl, HH⟩ := hrel
    have h3 : k = 0 ∨ k = 1 ∨ k = 2 := by omega
    rcases h3 with rfl | rfl | rfl
    · by_cases ha : a = 0
      · have HA : Hid (a = 0) := ha
        have b0 : (a != 0) = false := by simp [ha]
        clear ha
        go_wp2
        go_round
        case rel => exact ⟨1, by omega, by go_num, fun _ => HA.out, fun h => by omega⟩
        case measure => simp [intOf]
      · have HA : Hid (a = or2 a b) := by show a = or2 a b; unfold or2; rw [if_neg ha]
        have b0 : (a != 0) = true := by simp [ha]
        clear ha
        go_wp2
        go_ret
        exact ⟨ret_int HA.out, Below.refl _ _⟩
    · have ha := HH.out.1 (by omega)
      by_cases hb : b = 0
      · have HA : Hid (a = 0 ∧ b = 0) := ⟨ha, hb⟩
        have b0 : (b != 0) = false := by simp [hb]
        clear ha hb
        go_wp2
        go_round
        case rel => exact ⟨2, by omega, by go_num, fun _ => HA.out.1, fun _ => HA.out.2⟩
        case measure => simp [intOf]
      · have HA : Hid (b = or2 a b) := by show b = or2 a b; unfold or2; rw [if_pos ha]
        have b0 : (b != 0) = true := by simp [hb]
        clear ha hb
        go_wp2
        go_ret
        exact ⟨ret_int HA.out, Below.refl _ _⟩
    · have HA : Hid (0 = or2 a b) := by show 0 = or2 a b; unfold or2; rw [if_pos (HH.out.1 (by omega)), HH.out.2 (by omega)]
      go_wp2
      go_ret
      exact ⟨ret_int HA.out, Below.refl _ _⟩

theorem lit2 (W : World) (a b : Value) (t : TypeId) : (W.alloc (.cells #[a, b] t)).drew.cell? ⟨W.heap.size, 0, none⟩ = some a ∧ (W.alloc (.cells #[a, b] t)).drew.cell? ⟨W.heap.size, 1, none⟩ = some b := by
  have h : (W.alloc (.cells #[a, b] t)).rowIs W.heap.size t 2 (fun i => if i = 0 then a else b) := World.rowIs_alloc W #[a, b] t _ (fun i hi => by
    match i, hi with
    | 0, _ => rfl
    | 1, _ => rfl)
  have hb : Below (W.alloc (.cells #[a, b] t)).heap.size (W.alloc (.cells #[a, b] t)) (W.alloc (.cells #[a, b] t)).drew := (Below.refl _ _).drew
  refine ⟨?_, ?_⟩
  · rw [hb.cell (p := ⟨W.heap.size, 0, none⟩) h.lt]; exact h.cell (i := 0) (by omega)
  · rw [hb.cell (p := ⟨W.heap.size, 1, none⟩) h.lt]; exact h.cell (i := 1) (by omega)

set_option maxHeartbeats 2000000 in
theorem c71 (k : Int) (m : ByteArray) (k' : Int) (m' : ByteArray) (w : World) :
    Calls Try.prog 71 #[.agg #[.int .i64 k, .string m], .agg #[.int .i64 k', .string m']] w fun e w' => e = .returned (.int .i64 (ck k m k' m')) ∧ Below w.heap.size w w' := by
  have HB := bel2 w (.cells #[.int .i64 k, .string m] 41) (.cells #[.int .i64 k', .string m'] 41)
  have q0 : ((w.alloc (.cells #[.int .i64 k, .string m] 41)).alloc (.cells #[.int .i64 k', .string m'] 41)).cell? ⟨w.heap.size, 0, none⟩ = some (.int .i64 k) := by simp
  have q1 : ((w.alloc (.cells #[.int .i64 k, .string m] 41)).alloc (.cells #[.int .i64 k', .string m'] 41)).cell? ⟨w.heap.size, 1, none⟩ = some (.string m) := by simp
  have q2 : ((w.alloc (.cells #[.int .i64 k, .string m] 41)).alloc (.cells #[.int .i64 k', .string m'] 41)).cell? ⟨w.heap.size + 1, 0, none⟩ = some (.int .i64 k') := by simp
  have q3 : ((w.alloc (.cells #[.int .i64 k, .string m] 41)).alloc (.cells #[.int .i64 k', .string m'] 41)).cell? ⟨w.heap.size + 1, 1, none⟩ = some (.string m') := by simp
  have qz : ((w.alloc (.cells #[.int .i64 k, .string m] 41)).alloc (.cells #[.int .i64 k', .string m'] 41)).heap.size = w.heap.size + 1 + 1 := by simp
  go_enter Try.func71, Try.ntmps71
  go_wp2_with fail
  generalize ((w.alloc (.cells #[.int .i64 k, .string m] 41)).alloc (.cells #[.int .i64 k', .string m'] 41)) = Wx at *
  have QZ : Hid (Wx.heap.size = w.heap.size + 1 + 1) := qz
  have HX : Hid (Below w.heap.size w Wx) := HB
  have C82 : Hid (∀ W, Calls Try.prog 82 #[.int .i64 k, .int .i64 k'] W fun e w' => e = .returned (.int .i64 (cmpI k k')) ∧ w' = W) := fun W => c82 k k' W
  have C83 : Hid (∀ W, Calls Try.prog 83 #[.string m, .string m'] W fun e w' => e = .returned (.int .i64 (cmpS m m')) ∧ w' = W) := fun W => c83 m m' W
  have C81 : Hid (Calls Try.prog 81 #[.slice (some ⟨Wx.heap.size, 0, none⟩) 2 2] (Wx.alloc (.cells #[.int .i64 (cmpI k k'), .int .i64 (cmpS m m')] 3)).drew fun e w' => e = .returned (.int .i64 (ck k m k' m')) ∧ Hid (Below Wx.heap.size Wx w')) :=
    (c81 (cmpI k k') (cmpS m m') Wx.heap.size 2 _ (lit2 Wx _ _ 3).1 (lit2 Wx _ _ 3).2).mono fun e w' ⟨he, hb⟩ => ⟨he, (bel1 Wx _).drew.trans (hb.mono (by simp))⟩
  clear HB qz
  go_region_held3 (fun w' => w'.cell? ⟨w.heap.size, 0, none⟩ = some (.int .i64 k) ∧ w'.cell? ⟨w.heap.size, 1, none⟩ = some (.string m) ∧ w'.cell? ⟨w.heap.size + 1, 0, none⟩ = some (.int .i64 k') ∧ w'.cell? ⟨w.heap.size + 1, 1, none⟩ = some (.string m')) (first | go_keep | (rw [far_cell (by simp; try omega), far_cell (by simp; try omega), far_cell (by simp; try omega), far_cell (by simp; try omega)]; assumption))
    (first
      | (go_at_call 82; refine (C82.out _).mono ?_; rintro e w3 ⟨rfl, rfl⟩)
      | (go_at_call 83; refine (C83.out _).mono ?_; rintro e w4 ⟨rfl, rfl⟩)
      | (go_at_call 81; refine (C81.out).mono ?_; rintro e w5 ⟨rfl, hb5⟩; have z0 := (hb5.out.cell (p := ⟨w.heap.size, 0, none⟩) (World.block_lt_of_cell? _ _ q0)).trans q0; have z1 := (hb5.out.cell (p := ⟨w.heap.size, 1, none⟩) (World.block_lt_of_cell? _ _ q1)).trans q1; have z2 := (hb5.out.cell (p := ⟨w.heap.size + 1, 0, none⟩) (World.block_lt_of_cell? _ _ q2)).trans q2; have z3 := (hb5.out.cell (p := ⟨w.heap.size + 1, 1, none⟩) (World.block_lt_of_cell? _ _ q3)).trans q3))
  all_goals
    go_wp2
    go_ret
    exact ⟨rfl, HX.out.trans (hb5.out.mono HX.out.size)⟩

set_option maxHeartbeats 2000000 in
theorem c70 (k : Int) (m : ByteArray) (r o : Int) (h : Bool) (v : ByteArray) (a : Option Addr) (n c : Nat) (x y : Int) (w : World) :
    Calls Try.prog 70 #[.agg #[.int .i64 k, .string m, .int .i64 r, .int .i64 o, .bool h, .string v, .slice a n c, .int .i64 x, .int .i64 y]] w fun e w' => e = .returned (.agg #[.int .i64 k, .string m]) ∧ Below w.heap.size w w' := by
  go_enter Try.func70, Try.ntmps70
  go_wp2
  exact bodyPost_ret (v := .agg #[.int .i64 k, .string m]) (by simp [results, Try.results70, go_sem]) rfl ⟨rfl, bel2 _ _ _⟩

end Go.Proofs.Ytefplfcfoapnjaa
