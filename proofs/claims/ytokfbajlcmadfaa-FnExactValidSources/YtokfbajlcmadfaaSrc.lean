/-
  Sources: what is asked of them, and how they lie in memory.
-/
import Derived.Test.YtokfbajlcmadfaaPure
import Derived.WalkKit
import Derived.WalkSmall
import Derived.Deep.OwnRows
import Derived.Deep.Draws
namespace Go.Proofs.Ytokfbajlcmadfaa
open Go.RowKit

/-- One source, with those before it. -/
def sok (S T : Nat → ByteArray) (i : Nat) : Bool :=
  (gn (S i) && decide ((T i).size ≤ 1000)) && allTo i fun j => !((S i).toList == (S j).toList)
/-- Sources are valid. -/
def vsr (n : Nat) (S T : Nat → ByteArray) : Bool := decide (n ≤ 8) && allTo n (sok S T)

theorem vsr_big {n : Nat} {S T : Nat → ByteArray} (h : 8 < n) : vsr n S T = false := by unfold vsr; rw [decide_eq_false (by omega), Bool.false_and]
theorem vsr_no {n : Nat} {S T : Nat → ByteArray} (k : Nat) (hk : k < n) (h : sok S T k = false) : vsr n S T = false := by unfold vsr; rw [allTo_false k hk h, Bool.and_false]
theorem vsr_yes {n : Nat} {S T : Nat → ByteArray} (hn : n ≤ 8) (h : ∀ j, j < n → sok S T j = true) : vsr n S T = true := by unfold vsr; rw [decide_eq_true hn, allTo_true h]; rfl
theorem sok_name {S T : Nat → ByteArray} {i : Nat} (h : gn (S i) = false) : sok S T i = false := by unfold sok; rw [h]; simp
theorem sok_text {S T : Nat → ByteArray} {i : Nat} (h : 1000 < (T i).size) : sok S T i = false := by unfold sok; rw [decide_eq_false (by omega)]; simp
theorem sok_twice {S T : Nat → ByteArray} {i : Nat} (j : Nat) (hj : j < i) (h : (S i).toList = (S j).toList) : sok S T i = false := by
  unfold sok; rw [allTo_false j hj (by simp [h]), Bool.and_false]
theorem sok_yes {S T : Nat → ByteArray} {i : Nat} (h1 : gn (S i) = true) (h2 : (T i).size ≤ 1000) (h3 : ∀ j, j < i → (S i).toList ≠ (S j).toList) : sok S T i = true := by
  unfold sok; rw [h1, decide_eq_true h2, allTo_true (fun j hj => by simpa using h3 j hj)]; rfl

/-- A slice of sources. -/
structure SrcsAt (w : World) (ao : Option Addr) (b o n : Nat) (S T : Nat → ByteArray) : Prop where
  at_ : 0 < n → ao = some ⟨b, o, none⟩
  c0 : ∀ i, i < n → w.cell? ⟨b, o + i * 2, none⟩ = some (.string (S i))
  c1 : ∀ i, i < n → w.cell? ⟨b, o + i * 2 + 1, none⟩ = some (.string (T i))
  sizeS : ∀ i, i < n → (S i).size ≤ 9223372036854775807
  sizeT : ∀ i, i < n → (T i).size ≤ 9223372036854775807
  len : n ≤ 9223372036854775807

theorem SrcsAt.below {w w' : World} {ao : Option Addr} {b o n : Nat} {S T : Nat → ByteArray} (h : SrcsAt w ao b o n S T) (hb : Below w.heap.size w w') : SrcsAt w' ao b o n S T :=
  ⟨h.at_, fun i hi => by rw [hb.cell (p := ⟨b, o + i * 2, none⟩) (World.block_lt_of_cell? _ _ (h.c0 i hi))]; exact h.c0 i hi,
    fun i hi => by rw [hb.cell (p := ⟨b, o + i * 2 + 1, none⟩) (World.block_lt_of_cell? _ _ (h.c1 i hi))]; exact h.c1 i hi, h.sizeS, h.sizeT, h.len⟩

theorem SrcsAt.lt {w : World} {ao : Option Addr} {b o n : Nat} {S T : Nat → ByteArray} (h : SrcsAt w ao b o n S T) (hn : 0 < n) : b < w.heap.size :=
  World.block_lt_of_cell? _ _ (h.c0 0 hn)

end Go.Proofs.Ytokfbajlcmadfaa
