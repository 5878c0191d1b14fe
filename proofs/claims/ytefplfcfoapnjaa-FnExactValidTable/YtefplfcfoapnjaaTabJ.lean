/-
  Tables: the contracts of the program's look at one slot.
-/
import Derived.Test.YtefplfcfoapnjaaTabI
namespace Go.Proofs.Ytefplfcfoapnjaa
open Go.RowKit

/-- What the look for a bad key gives. -/
def AllOr (n : Nat) (K : Nat → Int) (M : Nat → ByteArray) (r : Int) : Prop := (r = -1 ∧ ∀ i, i < n → kv (K i) (M i) = true) ∨ (0 ≤ r ∧ ∃ i, i < n ∧ kv (K i) (M i) = false)

set_option maxHeartbeats 2000000 in
theorem c91 (ao : Option Addr) (b o n c : Nat) (K : Nat → Int) (M : Nat → ByteArray) (w : World) (h1 : KeysAt w ao b o n K M) :
    Calls Try.prog 91 #[.slice ao n c, .func (.func 85) #[] #[]] w fun e w' => ∃ r : Int, e = .returned (.int .i64 r) ∧ AllOr n K M r ∧ Below w.heap.size w w' := by
  have HB : Hid (∀ w', Below w.heap.size w w' → KeysAt w' ao b o n K M) := fun w' hb => h1.below hb
  have hn := h1.len
  have A1 := h1.at_
  clear h1
  go_enter Try.func91, Try.ntmps91
  go_wp2
  go_loopw [8] (fun i wr => ∃ (k : Nat), k ≤ n ∧ i = .int .i64 k ∧ Below w.heap.size w wr ∧ Hid (∀ i, i < k → kv (K i) (M i) = true)) (fun i _ => n - (intOf i).toNat)
  case atStart => exact ⟨0, Nat.zero_le _, rfl, Below.refl _ _, fun i hi => absurd hi (Nat.not_lt_zero _)⟩
  case round =>
    obtain ⟨k, hk, rfl, hb, HA⟩ := hrel
    by_cases hlt : k < n
    · have e1 := A1 (by omega)
      have q1 := HB.out wr hb
      have g0 := q1.c0 k hlt
      have g1 := q1.c1 k hlt
      have z1 := q1.size k hlt
      clear q1 HB
      subst e1
      go_wp2_with fail
      refine (c85 (K k) (M k) _ z1).mono ?_
      rintro e w' ⟨rfl, hb'⟩
      cases hv : kv (K k) (M k)
      · have HV : Hid (AllOr n K M (k : Int)) := Or.inr ⟨by omega, k, hlt, hv⟩
        go_wp2
        go_ret
        exact ⟨_, rfl, HV.out, hb.trans (hb'.mono hb.size)⟩
      · have HR : Hid (kv (K k) (M k) = true) := hv
        clear hv
        go_wp2
        go_roundw
        case rel => exact ⟨k + 1, by omega, by go_num, hb.trans (hb'.mono hb.size), fun i hi => by
          by_cases e : i = k
          · subst e; exact HR.out
          · exact HA.out i (by omega)⟩
        case measure => simp [intOf]; omega
    · have HV : Hid (AllOr n K M (-1)) := Or.inl ⟨rfl, fun i hi => HA.out i (by omega)⟩
      go_wp2
      go_ret
      exact ⟨_, rfl, HV.out, hb⟩

set_option maxHeartbeats 1000000 in
theorem c84 (ao : Option Addr) (b o n c : Nat) (K : Nat → Int) (M : Nat → ByteArray) (w : World) (h1 : KeysAt w ao b o n K M) :
    Calls Try.prog 84 #[.slice ao n c, .func (.func 85) #[] #[]] w fun e w' => e = .returned (.bool (!allTo n fun i => kv (K i) (M i))) ∧ Below w.heap.size w w' := by
  go_enter Try.func84, Try.ntmps84
  go_wp2_with fail
  refine (c91 ao b o n c K M _ h1).mono ?_
  rintro e w' ⟨r, rfl, hr, hb'⟩
  have HR : Hid (decide (0 ≤ r) = !allTo n fun i => kv (K i) (M i)) := by
    rcases hr with ⟨rfl, h⟩ | ⟨h0, i, hi, h⟩
    · show _ = _
      rw [allTo_true h]; rfl
    · show _ = _
      rw [allTo_false i hi h, decide_eq_true h0]; rfl
  clear hr
  go_wp2
  go_ret
  exact ⟨ret_bool HR.out, hb'⟩

set_option maxHeartbeats 1000000 in
theorem c72 (ao : Option Addr) (b o n c : Nat) (K : Nat → Int) (M : Nat → ByteArray) (w : World) (h1 : KeysAt w ao b o n K M) :
    Calls Try.prog 72 #[.slice ao n c] w fun e w' => e = .returned (.bool (dv n K M)) ∧ Below w.heap.size w w' := by
  have hn := h1.len
  by_cases h : n ≤ 1000
  · have HV : Hid (dv n K M = allTo n fun i => kv (K i) (M i)) := by show dv n K M = _; unfold dv; rw [decide_eq_true h, Bool.true_and]
    have C84 : Hid (∀ W, Below w.heap.size w W → Calls Try.prog 84 #[.slice ao n c, .func (.func 85) #[] #[]] W fun e w' => e = .returned (.bool (!allTo n fun i => kv (K i) (M i))) ∧ Below W.heap.size W w') := fun W hW => c84 ao b o n c K M W (h1.below hW)
    clear h1
    go_enter Try.func72, Try.ntmps72
    go_wp2_with (first | (go_at_call 84; refine (C84.out _ (by first | exact Below.refl _ _ | exact (Below.refl _ _).drew)).mono ?_; rintro e w' ⟨rfl, hb'⟩))
    go_ret
    exact ⟨ret_bool HV.out.symm, hb'⟩
  · have HV : Hid (dv n K M = false) := dv_big (by omega)
    go_enter Try.func72, Try.ntmps72
    go_wp2
    go_ret
    exact ⟨ret_bool HV.out.symm, Below.refl _ _⟩

/-- An entry as a value. -/
abbrev edv (p : SP) (d : SD) : Value := .agg #[.int .i64 d.k, .string d.m, .int .i64 d.sin, .int .i64 d.own, .bool d.has, .string d.v, .slice p.a d.n p.c, .int .i64 d.ver, .int .i64 d.chg]

set_option maxHeartbeats 2000000 in
theorem c51 (p : SP) (d : SD) (w : World) :
    Calls Try.prog 51 #[sdv p d] w fun e w' => e = .returned (edv p d) ∧ Below w.heap.size w w' := by
  unfold sdv edv
  go_enter Try.func51, Try.ntmps51
  go_wp2
  exact bodyPost_ret (v := .agg #[.int .i64 d.k, .string d.m, .int .i64 d.sin, .int .i64 d.own, .bool d.has, .string d.v, .slice p.a d.n p.c, .int .i64 d.ver, .int .i64 d.chg]) (by simp [results, Try.results51, go_sem]) rfl ⟨rfl, bel2 _ _ _⟩

theorem svi_key {d : SD} (h : kv d.k d.m = false) : sv d = false := by unfold sv; rw [h, Bool.false_and]
theorem svi_has {d : SD} (hk : kv d.k d.m = true) (hh : d.has = true) : sv d = (decide (free d ∨ held d) && (decide (1 ≤ d.chg) && (decide (d.chg ≤ d.ver) && dv d.n d.dk d.dm))) := by
  unfold sv
  rw [hk, hh, if_pos rfl, Bool.true_and]
  by_cases h : (free d ∨ held d) <;> by_cases h1 : 1 ≤ d.chg <;> by_cases h2 : d.chg ≤ d.ver <;> simp [h, h1, h2]
theorem svi_none {d : SD} (hk : kv d.k d.m = true) (hh : d.has = false) : sv d = decide (held d ∧ d.v.size = 0 ∧ d.n = 0 ∧ d.ver = 0 ∧ d.chg = 0) := by
  unfold sv
  rw [hk, hh, if_neg (by simp), Bool.true_and]

theorem worker_held {d : SD} {x : Int} (hlo : -9223372036854775808 ≤ d.own) (hhi : d.own ≤ 9223372036854775807) (hx : x = IntKind.i64.wrap (d.own - 1)) : (0 ≤ x ∧ x < 16) ↔ (1 ≤ d.own ∧ d.own ≤ 16) := by
  rw [hx, IntKind.wrap_i64]; omega

theorem free_b (d : SD) : decide (free d) = ((d.own == 0) && (d.sin == 0)) := by
  rw [Bool.eq_iff_iff, decide_eq_true_iff]; simp [free]
theorem size_toList (s : ByteArray) : s.toList = [] ↔ s.size = 0 := by
  rw [ByteArray.toList_eq]
  have : s.data.toList.length = s.size := rfl
  rw [← this]
  exact ⟨fun h => by rw [h]; rfl, fun h => List.length_eq_zero_iff.1 h⟩
theorem held_b {d : SD} {x : Int} (h : (0 ≤ x ∧ x < 16) ↔ (1 ≤ d.own ∧ d.own ≤ 16)) : decide (held d) = (decide (0 ≤ x ∧ x < 16) && decide (1 ≤ d.sin)) := by
  rw [Bool.eq_iff_iff, Bool.and_eq_true, decide_eq_true_iff, decide_eq_true_iff, decide_eq_true_iff, h]
  unfold held
  exact ⟨fun ⟨a, b, c⟩ => ⟨⟨a, b⟩, c⟩, fun ⟨⟨a, b⟩, c⟩ => ⟨a, b, c⟩⟩

end Go.Proofs.Ytefplfcfoapnjaa
