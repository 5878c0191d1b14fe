/-
  Tables: from the reading of the argument to the memory that the walks speak of.
-/
import Derived.Test.YtefplfcfoapnjaaProg
import Derived.Test.YtefplfcfoapnjaaTab
import Derived.ProofKit
import Derived.Deep.Slices
import Derived.Deep.Strs
namespace Go.Proofs.Ytefplfcfoapnjaa
open Go.ChangeShapes Go.WideShapes Go.ChangeAt Go.RowKit Go.Deep

theorem Try.cells3 : Try.prog.cellsOf 3 = 1 := by kernel_rfl
theorem Try.cells4 : Try.prog.cellsOf 4 = 1 := by kernel_rfl
theorem Try.cells9 : Try.prog.cellsOf 9 = 1 := by kernel_rfl
theorem Try.cells22 : Try.prog.cellsOf 22 = 1 := by kernel_rfl
theorem Try.cells24 : Try.prog.cellsOf 24 = 1 := by kernel_rfl
theorem Try.cells35 : Try.prog.cellsOf 35 = 2 := by kernel_rfl
theorem Try.cells87 : Try.prog.cellsOf 87 = 1 := by kernel_rfl
theorem Try.cells89 : Try.prog.cellsOf 89 = 9 := by kernel_rfl

theorem addr_plain {w : World} {a : Addr} {v : Value} (h : w.cell? (a.add 0) = some v) : a = ⟨a.block, a.off, none⟩ := by
  obtain ⟨b, o, s⟩ := a
  have hs : s = none := by simpa [Addr.add] using World.cell?_spot h
  subst hs; rfl

theorem addr_at {w : World} {a : Addr} {v : Value} {i : Nat} (hp : a = ⟨a.block, a.off, none⟩) (h : w.cell? (a.add i) = some v) : w.cell? ⟨a.block, a.off + i, none⟩ = some v := by
  rw [hp, add_plain] at h; exact h

theorem wf_range {n : Int} (h : (Lit.int .i64 n).wf = true) : -9223372036854775808 ≤ n ∧ n ≤ 9223372036854775807 := by
  unfold Lit.wf at h
  rw [Bool.and_eq_true, decide_eq_true_iff, decide_eq_true_iff] at h
  exact h

section
variable {P : Program} {H : Type} {enc : TypeId × Value → H} {W : World} {base : Nat} {spare : Nat → Bool} {held : Bool}

theorem trod_struct8 {t : TypeId} {f0 f1 f2 f3 f4 f5 f6 f7 : Field} {fuel : Nat} {cs : List Value} {x : DataW H × List MemPlace} (ht : P.underlying t = some (.struct #[f0, f1, f2, f3, f4, f5, f6, f7])) (h : DataW.trod enc P W base spare held fuel t cs = some x) :
    ∃ y0 y1 y2 y3 y4 y5 y6 y7 n, cs.length = P.cellsOf t ∧ DataW.trod enc P W base spare held n f0.type ((cs.drop f0.offset).take (P.cellsOf f0.type)) = some y0 ∧
      DataW.trod enc P W base spare held n f1.type ((cs.drop f1.offset).take (P.cellsOf f1.type)) = some y1 ∧ DataW.trod enc P W base spare held n f2.type ((cs.drop f2.offset).take (P.cellsOf f2.type)) = some y2 ∧
      DataW.trod enc P W base spare held n f3.type ((cs.drop f3.offset).take (P.cellsOf f3.type)) = some y3 ∧ DataW.trod enc P W base spare held n f4.type ((cs.drop f4.offset).take (P.cellsOf f4.type)) = some y4 ∧
      DataW.trod enc P W base spare held n f5.type ((cs.drop f5.offset).take (P.cellsOf f5.type)) = some y5 ∧ DataW.trod enc P W base spare held n f6.type ((cs.drop f6.offset).take (P.cellsOf f6.type)) = some y6 ∧
      DataW.trod enc P W base spare held n f7.type ((cs.drop f7.offset).take (P.cellsOf f7.type)) = some y7 := by
  obtain ⟨xs, n, _, rfl, hl, hlen, hf⟩ := DataW.trod_struct ht h
  match xs, hlen with
  | [y0, y1, y2, y3, y4, y5, y6, y7], _ => exact ⟨y0, y1, y2, y3, y4, y5, y6, y7, n, hl, by simpa using hf 0 f0 rfl, by simpa using hf 1 f1 rfl, by simpa using hf 2 f2 rfl, by simpa using hf 3 f3 rfl, by simpa using hf 4 f4 rfl, by simpa using hf 5 f5 rfl, by simpa using hf 6 f6 rfl, by simpa using hf 7 f7 rfl⟩

end

section
variable {H : Type} {enc : TypeId × Value → H} {W : World} {held : Bool}

set_option maxRecDepth 100000 in
theorem key_open {fuel : Nat} {cs : List Value} {x : DataW H × List MemPlace} (h : DataW.trod enc Try.prog W 0 (fun _ => true) held fuel 35 cs = some x) :
    ∃ y : Int × ByteArray, cs = [.int .i64 y.1, .string y.2] ∧ y.2.size ≤ maxLen := by
  obtain ⟨y0, y1, n, _, hlen, h0, h1⟩ := trod_struct2 Try.underlying35 h
  rw [Try.cells35] at hlen
  match cs, hlen with
  | [v0, v1], _ =>
    simp only [Try.cells3, Try.cells9, List.drop_zero, List.drop_succ_cons, List.take_succ_cons, List.take_zero] at h0 h1
    obtain ⟨s, hs, _⟩ := DataW.trod_int Try.underlying3 h0
    obtain ⟨t, ht, htz⟩ := DataW.trod_string Try.underlying9 h1
    simp only [List.cons.injEq, and_true] at hs ht
    subst hs ht
    exact ⟨(s, t), rfl, htz.2⟩

theorem keys_open {fuel : Nat} {cs : List Value} {x : DataW H × List MemPlace} (h : DataW.trod enc Try.prog W 0 (fun _ => true) held fuel 87 cs = some x) :
    ∃ ao b o n c K M, cs = [.slice ao n c] ∧ KeysAt W ao b o n K M := by
  rcases open_slice Try.underlying87 h with ⟨rfl, _⟩ | ⟨a, len, cap, m, n, D, Pl, rfl, _, hl, hm, hmm, _, hx⟩
  · exact ⟨none, 0, 0, 0, 0, fun _ => 0, fun _ => ByteArray.empty, rfl, ⟨fun h => absurd h (Nat.lt_irrefl _), fun i h => absurd h (Nat.not_lt_zero _), fun i h => absurd h (Nat.not_lt_zero _), fun i h => absurd h (Nat.not_lt_zero _), by omega⟩⟩
  · simp only [if_true] at hmm
    subst hmm
    rw [Try.cells35] at hx
    have each : ∀ i, i < m → ∃ y : Int × ByteArray, (W.cell? (a.add (i * 2)) = some (.int .i64 y.1) ∧ W.cell? (a.add (i * 2 + 1)) = some (.string y.2)) ∧ y.2.size ≤ maxLen := by
      intro i hi
      obtain ⟨cs', h1, h2⟩ := hx i hi
      obtain ⟨y, rfl, hy⟩ := key_open h2
      obtain ⟨_, _, hc⟩ := World.cells?_some h1
      have e0 := hc 0 (by omega)
      have e1 := hc 1 (by omega)
      rw [add_add] at e0 e1
      exact ⟨y, ⟨e0, e1⟩, hy⟩
    have hin : Inhabited (Int × ByteArray) := ⟨(0, ByteArray.empty)⟩
    obtain ⟨y, hy⟩ := choose_lt each
    unfold maxLen at hm hy
    have hp : 0 < len → a = ⟨a.block, a.off, none⟩ := fun hp => by
      have := (hy 0 (by omega)).1.1
      rw [Nat.zero_mul] at this
      exact addr_plain this
    refine ⟨some a, a.block, a.off, len, m, fun i => (y i).1, fun i => (y i).2, rfl, ⟨fun h => congrArg some (hp h), fun i hi => addr_at (hp (by omega)) (hy i (by omega)).1.1, fun i hi => ?_, fun i hi => ?_, by omega⟩⟩
    · have := addr_at (hp (by omega)) (hy i (by omega)).1.2
      rw [Nat.add_assoc]; exact this
    · have := (hy i (by omega)).2; omega

set_option maxRecDepth 100000 in
theorem slot_open {fuel : Nat} {cs : List Value} {x : DataW H × List MemPlace} (h : DataW.trod enc Try.prog W 0 (fun _ => true) held fuel 89 cs = some x) :
    ∃ y : SP × SD, cs = [sc y.1 y.2 0, sc y.1 y.2 1, sc y.1 y.2 2, sc y.1 y.2 3, sc y.1 y.2 4, sc y.1 y.2 5, sc y.1 y.2 6, sc y.1 y.2 7, sc y.1 y.2 8] ∧ SlotAt W y.1 y.2 := by
  obtain ⟨_, _, _, _, _, _, _, _, n, hlen, h0, h1, h2, h3, h4, h5, h6, h7⟩ := trod_struct8 Try.underlying89 h
  rw [Try.cells89] at hlen
  match cs, hlen with
  | [v0, v1, v2, v3, v4, v5, v6, v7, v8], _ =>
    simp only [Try.cells3, Try.cells4, Try.cells9, Try.cells35, Try.cells87, List.drop_zero, List.drop_succ_cons, List.take_succ_cons, List.take_zero] at h0 h1 h2 h3 h4 h5 h6 h7
    obtain ⟨⟨k, m⟩, hkm, hsm⟩ := key_open h0
    obtain ⟨hs, he1, _⟩ := DataW.trod_bool Try.underlying4 h1
    obtain ⟨v, he2, hv⟩ := DataW.trod_string Try.underlying9 h2
    obtain ⟨ao, b, o, nn, c, K, M, he3, hK⟩ := keys_open h3
    obtain ⟨ver, he4, _, _⟩ := DataW.trod_int Try.underlying3 h4
    obtain ⟨chg, he5, _, _⟩ := DataW.trod_int Try.underlying3 h5
    obtain ⟨own, he6, _, hw⟩ := DataW.trod_int Try.underlying3 h6
    obtain ⟨sin, he7, _, _⟩ := DataW.trod_int Try.underlying3 h7
    simp only [List.cons.injEq, and_true] at hkm he1 he2 he3 he4 he5 he6 he7
    obtain ⟨e0, e1⟩ := hkm
    subst e0 e1 he1 he2 he3 he4 he5 he6 he7
    have hr := wf_range hw
    have hvz := hv.2
    unfold maxLen at hsm hvz
    exact ⟨(⟨ao, b, o, c⟩, ⟨k, m, hs, v, nn, K, M, ver, chg, own, sin⟩), rfl, ⟨hK, by omega, by omega, hr.1, hr.2⟩⟩

theorem slots_open {fuel : Nat} {cs : List Value} {x : DataW H × List MemPlace} (h : DataW.trod enc Try.prog W 0 (fun _ => true) held fuel 22 cs = some x) :
    ∃ ao b o n c p D, cs = [.slice ao n c] ∧ SlotsAt W ao b o n p D := by
  have hin : Inhabited (SP × SD) := ⟨(⟨none, 0, 0, 0⟩, ⟨0, ByteArray.empty, false, ByteArray.empty, 0, fun _ => 0, fun _ => ByteArray.empty, 0, 0, 0, 0⟩)⟩
  rcases open_slice Try.underlying22 h with ⟨rfl, _⟩ | ⟨a, len, cap, m, n, D, Pl, rfl, _, hl, hm, hmm, _, hx⟩
  · exact ⟨none, 0, 0, 0, 0, fun _ => hin.default.1, fun _ => hin.default.2, rfl, ⟨fun h => absurd h (Nat.lt_irrefl _), fun i j h => absurd h (Nat.not_lt_zero _), fun i h => absurd h (Nat.not_lt_zero _), by omega⟩⟩
  · simp only [if_true] at hmm
    subst hmm
    rw [Try.cells89] at hx
    have each : ∀ i, i < m → ∃ y : SP × SD, (∀ j, j < 9 → W.cell? (a.add (i * 9 + j)) = some (sc y.1 y.2 j)) ∧ SlotAt W y.1 y.2 := by
      intro i hi
      obtain ⟨cs', h1, h2⟩ := hx i hi
      obtain ⟨y, rfl, hy⟩ := slot_open h2
      obtain ⟨_, _, hc⟩ := World.cells?_some h1
      refine ⟨y, fun j hj => ?_, hy⟩
      have e := hc j (by omega)
      rw [add_add] at e
      rw [e]
      match j, hj with
      | 0, _ => rfl
      | 1, _ => rfl
      | 2, _ => rfl
      | 3, _ => rfl
      | 4, _ => rfl
      | 5, _ => rfl
      | 6, _ => rfl
      | 7, _ => rfl
      | 8, _ => rfl
    obtain ⟨y, hy⟩ := choose_lt each
    unfold maxLen at hm
    have hp : 0 < len → a = ⟨a.block, a.off, none⟩ := fun hp => by
      have := (hy 0 (by omega)).1 0 (by omega)
      rw [Nat.zero_mul] at this
      exact addr_plain this
    refine ⟨some a, a.block, a.off, len, m, fun i => (y i).1, fun i => (y i).2, rfl, ⟨fun h => congrArg some (hp h), fun i j hi hj => ?_, fun i hi => (hy i (by omega)).2, by omega⟩⟩
    have := addr_at (hp (by omega)) ((hy i (by omega)).1 j hj)
    rw [Nat.add_assoc]; exact this

end
end Go.Proofs.Ytefplfcfoapnjaa
