/-
  Sources: from the reading of the argument to the memory that the walks speak of.
-/
import Derived.Test.YtokfbajlcmadfaaProg
import Derived.Test.YtokfbajlcmadfaaSrc
import Derived.ProofKit
import Derived.Deep.Slices
import Derived.Deep.Strs
namespace Go.Proofs.Ytokfbajlcmadfaa
open Go.ChangeShapes Go.WideShapes Go.ChangeAt Go.RowKit Go.Deep

theorem Try.cells9 : Try.prog.cellsOf 9 = 1 := by kernel_rfl
theorem Try.cells47 : Try.prog.cellsOf 47 = 2 := by kernel_rfl

theorem addr_plain {w : World} {a : Addr} {v : Value} (h : w.cell? (a.add 0) = some v) : a = ⟨a.block, a.off, none⟩ := by
  obtain ⟨b, o, s⟩ := a
  have hs : s = none := by simpa [Addr.add] using World.cell?_spot h
  subst hs; rfl

theorem addr_at {w : World} {a : Addr} {v : Value} {i : Nat} (hp : a = ⟨a.block, a.off, none⟩) (h : w.cell? (a.add i) = some v) : w.cell? ⟨a.block, a.off + i, none⟩ = some v := by
  rw [hp, add_plain] at h; exact h

section
variable {H : Type} {enc : TypeId × Value → H} {W : World} {held : Bool}

theorem src_open {fuel : Nat} {cs : List Value} {x : DataW H × List MemPlace} (h : DataW.trod enc Try.prog W 0 (fun _ => true) held fuel 47 cs = some x) :
    ∃ y : ByteArray × ByteArray, cs = [.string y.1, .string y.2] ∧ y.1.size ≤ maxLen ∧ y.2.size ≤ maxLen := by
  obtain ⟨y0, y1, n, _, hlen, h0, h1⟩ := trod_struct2 Try.underlying47 h
  rw [Try.cells47] at hlen
  match cs, hlen with
  | [v0, v1], _ =>
    simp only [Try.cells9, List.drop_zero, List.drop_succ_cons, List.take_succ_cons, List.take_zero] at h0 h1
    obtain ⟨s, hs, hsz⟩ := DataW.trod_string Try.underlying9 h0
    obtain ⟨t, ht, htz⟩ := DataW.trod_string Try.underlying9 h1
    simp only [List.cons.injEq, and_true] at hs ht
    subst hs ht
    exact ⟨(s, t), rfl, hsz.2, htz.2⟩

theorem srcs_open {fuel : Nat} {cs : List Value} {x : DataW H × List MemPlace} (h : DataW.trod enc Try.prog W 0 (fun _ => true) held fuel 22 cs = some x) :
    ∃ ao b o n c S T, cs = [.slice ao n c] ∧ SrcsAt W ao b o n S T := by
  rcases open_slice Try.underlying22 h with ⟨rfl, _⟩ | ⟨a, len, cap, m, n, D, Pl, rfl, _, hl, hm, hmm, _, hx⟩
  · exact ⟨none, 0, 0, 0, 0, fun _ => ByteArray.empty, fun _ => ByteArray.empty, rfl, ⟨fun h => absurd h (Nat.lt_irrefl _), fun i h => absurd h (Nat.not_lt_zero _), fun i h => absurd h (Nat.not_lt_zero _), fun i h => absurd h (Nat.not_lt_zero _), fun i h => absurd h (Nat.not_lt_zero _), by omega⟩⟩
  · simp only [if_true] at hmm
    subst hmm
    rw [Try.cells47] at hx
    have each : ∀ i, i < m → ∃ y : ByteArray × ByteArray, (W.cell? (a.add (i * 2)) = some (.string y.1) ∧ W.cell? (a.add (i * 2 + 1)) = some (.string y.2)) ∧ y.1.size ≤ maxLen ∧ y.2.size ≤ maxLen := by
      intro i hi
      obtain ⟨cs', h1, h2⟩ := hx i hi
      obtain ⟨y, rfl, hy⟩ := src_open h2
      obtain ⟨_, _, hc⟩ := World.cells?_some h1
      have e0 := hc 0 (by omega)
      have e1 := hc 1 (by omega)
      rw [add_add] at e0 e1
      exact ⟨y, ⟨e0, e1⟩, hy⟩
    obtain ⟨y, hy⟩ := choose_lt each
    unfold maxLen at hm hy
    have hp : 0 < len → a = ⟨a.block, a.off, none⟩ := fun hp => by
      have := (hy 0 (by omega)).1.1
      rw [Nat.zero_mul] at this
      exact addr_plain this
    refine ⟨some a, a.block, a.off, len, m, fun i => (y i).1, fun i => (y i).2, rfl, ⟨fun h => congrArg some (hp h), fun i hi => addr_at (hp (by omega)) (hy i (by omega)).1.1, fun i hi => ?_, fun i hi => ?_, fun i hi => ?_, by omega⟩⟩
    · have := addr_at (hp (by omega)) (hy i (by omega)).1.2
      rw [Nat.add_assoc]; exact this
    · have := (hy i (by omega)).2.1; omega
    · have := (hy i (by omega)).2.2; omega

end
end Go.Proofs.Ytokfbajlcmadfaa
