/-
  From the reading of the argument to the memory that the walks speak of.
-/
import Derived.Test.YtfjfnfgaopdfeaaProg
import Derived.Test.YtfjfnfgaopdfeaaMem
import Derived.ProofKit
import Derived.Deep.Slices
import Derived.Deep.Strs
namespace Go.Proofs.Ytfjfnfgaopdfeaa
open Go.ChangeShapes Go.WideShapes Go.ChangeAt Go.RowKit Go.Deep

theorem Try.cells3 : Try.prog.cellsOf 3 = 1 := by kernel_rfl
theorem Try.cells9 : Try.prog.cellsOf 9 = 1 := by kernel_rfl
theorem Try.cells22 : Try.prog.cellsOf 22 = 1 := by kernel_rfl
theorem Try.cells24 : Try.prog.cellsOf 24 = 1 := by kernel_rfl
theorem Try.cells35 : Try.prog.cellsOf 35 = 1 := by kernel_rfl
theorem Try.cells36 : Try.prog.cellsOf 36 = 1 := by kernel_rfl
theorem Try.cells44 : Try.prog.cellsOf 44 = 3 := by kernel_rfl

theorem addr_plain {w : World} {a : Addr} {v : Value} (h : w.cell? (a.add 0) = some v) : a = ⟨a.block, a.off, none⟩ := by
  obtain ⟨b, o, s⟩ := a
  have hs : s = none := by simpa [Addr.add] using World.cell?_spot h
  subst hs; rfl

theorem addr_at {w : World} {a : Addr} {v : Value} {i : Nat} (hp : a = ⟨a.block, a.off, none⟩) (h : w.cell? (a.add i) = some v) : w.cell? ⟨a.block, a.off + i, none⟩ = some v := by
  rw [hp, add_plain] at h; exact h

section
variable {H : Type} {enc : TypeId × Value → H} {W : World} {held : Bool}

theorem strs_open {fuel : Nat} {cs : List Value} {x : DataW H × List MemPlace} (h : DataW.trod enc Try.prog W 0 (fun _ => true) held fuel 35 cs = some x) :
    ∃ ao b o n c S, cs = [.slice ao n c] ∧ StrsAt W ao b o n S := by
  rcases open_strs Try.underlying35 Try.underlying9 Try.cells9 h with ⟨rfl, _⟩ | ⟨a, len, cap, m, Sx, rfl, _, hl, hm, hmm, _, hx⟩
  · exact ⟨none, 0, 0, 0, 0, fun _ => ByteArray.empty, rfl, ⟨fun h => absurd h (Nat.lt_irrefl _), fun i h => absurd h (Nat.not_lt_zero _), fun i h => absurd h (Nat.not_lt_zero _), by omega⟩⟩
  · simp only [if_true] at hmm
    subst hmm
    unfold maxLen at hm hx
    refine ⟨some a, a.block, a.off, len, m, Sx, rfl, ⟨fun hp => congrArg some (addr_plain (hx 0 (by omega)).1), fun i hi => addr_at (addr_plain (hx 0 (by omega)).1) (hx i (by omega)).1, fun i hi => ?_, by omega⟩⟩
    have := (hx i (by omega)).2
    omega

theorem ints_open {fuel : Nat} {cs : List Value} {x : DataW H × List MemPlace} (h : DataW.trod enc Try.prog W 0 (fun _ => true) held fuel 36 cs = some x) :
    ∃ ao b o n c D, cs = [.slice ao n c] ∧ IntsAt W ao b o n D := by
  rcases open_ints Try.underlying36 Try.underlying3 Try.cells3 h with ⟨rfl, _⟩ | ⟨a, len, cap, zs, rfl, _, hl, hm, hz, _, hx, _⟩
  · exact ⟨none, 0, 0, 0, 0, fun _ => 0, rfl, ⟨fun h => absurd h (Nat.lt_irrefl _), fun i h => absurd h (Nat.not_lt_zero _), by omega⟩⟩
  · simp only [if_true] at hz
    unfold maxLen at hm
    exact ⟨some a, a.block, a.off, len, cap, fun i => zs.getD i 0, rfl, ⟨fun hp => congrArg some (addr_plain (hx 0 (by omega))), fun i hi => addr_at (addr_plain (hx 0 (by omega))) (hx i (by omega)), by omega⟩⟩

theorem node_open {fuel : Nat} {cs : List Value} {x : DataW H × List MemPlace} (h : DataW.trod enc Try.prog W 0 (fun _ => true) held fuel 44 cs = some x) :
    ∃ y : NP × ND, cs = [.int .i64 y.2.kind, .slice y.1.a1 y.2.nn y.1.c1, .slice y.1.a2 y.2.nk y.1.c2] ∧ NodeAt W y.1 y.2 := by
  obtain ⟨y0, y1, y2, n, _, hlen, h0, h1, h2⟩ := trod_struct3 Try.underlying44 h
  rw [Try.cells44] at hlen
  match cs, hlen with
  | [v0, v1, v2], _ =>
    simp only [Try.cells3, Try.cells35, Try.cells36, List.drop_zero, List.drop_succ_cons, List.take_succ_cons, List.take_zero] at h0 h1 h2
    obtain ⟨k, hk, _, _⟩ := DataW.trod_int Try.underlying3 h0
    obtain ⟨a1, b1, o1, n1, c1, S, hs, q1⟩ := strs_open h1
    obtain ⟨a2, b2, o2, n2, c2, D, hd, q2⟩ := ints_open h2
    simp only [List.cons.injEq, and_true] at hk hs hd
    subst hk hs hd
    exact ⟨(⟨a1, b1, o1, c1, a2, b2, o2, c2⟩, ⟨k, n1, S, n2, D⟩), rfl, ⟨q1, q2⟩⟩

theorem nodes_open {fuel : Nat} {cs : List Value} {x : DataW H × List MemPlace} (h : DataW.trod enc Try.prog W 0 (fun _ => true) held fuel 22 cs = some x) :
    ∃ ao b o n c p G, cs = [.slice ao n c] ∧ NodesAt W ao b o n p G := by
  have hin : Inhabited (NP × ND) := ⟨(⟨none, 0, 0, 0, none, 0, 0, 0⟩, ⟨0, 0, fun _ => ByteArray.empty, 0, fun _ => 0⟩)⟩
  rcases open_slice Try.underlying22 h with ⟨rfl, _⟩ | ⟨a, len, cap, m, n, D, Pl, rfl, _, hl, hm, hmm, _, hx⟩
  · exact ⟨none, 0, 0, 0, 0, fun _ => hin.default.1, fun _ => hin.default.2, rfl, ⟨fun h => absurd h (Nat.lt_irrefl _), fun i h => absurd h (Nat.not_lt_zero _), fun i h => absurd h (Nat.not_lt_zero _), fun i h => absurd h (Nat.not_lt_zero _), fun i h => absurd h (Nat.not_lt_zero _), by omega⟩⟩
  · simp only [if_true] at hmm
    subst hmm
    rw [Try.cells44] at hx
    have each : ∀ i, i < m → ∃ y : NP × ND, (W.cell? (a.add (i * 3)) = some (.int .i64 y.2.kind) ∧ W.cell? (a.add (i * 3 + 1)) = some (.slice y.1.a1 y.2.nn y.1.c1) ∧ W.cell? (a.add (i * 3 + 2)) = some (.slice y.1.a2 y.2.nk y.1.c2)) ∧ NodeAt W y.1 y.2 := by
      intro i hi
      obtain ⟨cs', h1, h2⟩ := hx i hi
      obtain ⟨y, rfl, hy⟩ := node_open h2
      obtain ⟨_, _, hc⟩ := World.cells?_some h1
      have e0 := hc 0 (by omega)
      have e1 := hc 1 (by omega)
      have e2 := hc 2 (by omega)
      rw [add_add] at e0 e1 e2
      exact ⟨y, ⟨e0, e1, e2⟩, hy⟩
    obtain ⟨y, hy⟩ := choose_lt each
    unfold maxLen at hm
    have hp : 0 < len → a = ⟨a.block, a.off, none⟩ := fun hp => by
      have := (hy 0 (by omega)).1.1
      rw [Nat.zero_mul] at this
      exact addr_plain this
    refine ⟨some a, a.block, a.off, len, m, fun i => (y i).1, fun i => (y i).2, rfl, ⟨fun h => congrArg some (hp h), fun i hi => addr_at (hp (by omega)) (hy i (by omega)).1.1, fun i hi => ?_, fun i hi => ?_, fun i hi => (hy i (by omega)).2, by omega⟩⟩
    · have := addr_at (hp (by omega)) (hy i (by omega)).1.2.1
      rw [Nat.add_assoc]; exact this
    · have := addr_at (hp (by omega)) (hy i (by omega)).1.2.2
      rw [Nat.add_assoc]; exact this

end
end Go.Proofs.Ytfjfnfgaopdfeaa
