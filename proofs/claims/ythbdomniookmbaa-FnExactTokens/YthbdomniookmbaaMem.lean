/-
  How a graph lies in memory: predicates over the world, and that they last.
-/
import Derived.Test.YthbdomniookmbaaPure
import Derived.WalkKit
import Derived.WalkSmall
import Derived.Deep.OwnRows
import Derived.Deep.Draws
namespace Go.Proofs.Ythbdomniookmbaa
open Go.RowKit

/-- The bound that every length keeps once the law has counted. -/
def lim : Nat := 1048576

/-- A slice of strings. -/
structure StrsAt (w : World) (ao : Option Addr) (b o n : Nat) (S : Nat → ByteArray) : Prop where
  at_ : 0 < n → ao = some ⟨b, o, none⟩
  cell : ∀ i, i < n → w.cell? ⟨b, o + i, none⟩ = some (.string (S i))
  size : ∀ i, i < n → (S i).size ≤ 9223372036854775807
  len : n ≤ 9223372036854775807

/-- A slice of numbers. -/
structure IntsAt (w : World) (ao : Option Addr) (b o n : Nat) (D : Nat → Int) : Prop where
  at_ : 0 < n → ao = some ⟨b, o, none⟩
  cell : ∀ i, i < n → w.cell? ⟨b, o + i, none⟩ = some (.int .i64 (D i))
  len : n ≤ 9223372036854775807

/-- Where a node's two slices begin. -/
structure NP where
  a1 : Option Addr
  b1 : Nat
  o1 : Nat
  c1 : Nat
  a2 : Option Addr
  b2 : Nat
  o2 : Nat
  c2 : Nat

/-- A node's two slices. -/
structure NodeAt (w : World) (p : NP) (d : ND) : Prop where
  names : StrsAt w p.a1 p.b1 p.o1 d.nn d.nm
  kids : IntsAt w p.a2 p.b2 p.o2 d.nk d.kd

/-- A node as a value. -/
abbrev ndv (p : NP) (d : ND) : Value := .agg #[.int .i64 d.kind, .slice p.a1 d.nn p.c1, .slice p.a2 d.nk p.c2]

/-- A slice of nodes. -/
structure NodesAt (w : World) (ao : Option Addr) (b o n : Nat) (p : Nat → NP) (G : Nat → ND) : Prop where
  at_ : 0 < n → ao = some ⟨b, o, none⟩
  c0 : ∀ i, i < n → w.cell? ⟨b, o + i * 3, none⟩ = some (.int .i64 (G i).kind)
  c1 : ∀ i, i < n → w.cell? ⟨b, o + i * 3 + 1, none⟩ = some (.slice (p i).a1 (G i).nn (p i).c1)
  c2 : ∀ i, i < n → w.cell? ⟨b, o + i * 3 + 2, none⟩ = some (.slice (p i).a2 (G i).nk (p i).c2)
  node : ∀ i, i < n → NodeAt w (p i) (G i)
  len : n ≤ 9223372036854775807

theorem StrsAt.below {w w' : World} {ao : Option Addr} {b o n : Nat} {S : Nat → ByteArray} (h : StrsAt w ao b o n S) (hb : Below w.heap.size w w') : StrsAt w' ao b o n S :=
  ⟨h.at_, fun i hi => by rw [hb.cell (p := ⟨b, o + i, none⟩) (World.block_lt_of_cell? _ _ (h.cell i hi))]; exact h.cell i hi, h.size, h.len⟩
theorem IntsAt.below {w w' : World} {ao : Option Addr} {b o n : Nat} {D : Nat → Int} (h : IntsAt w ao b o n D) (hb : Below w.heap.size w w') : IntsAt w' ao b o n D :=
  ⟨h.at_, fun i hi => by rw [hb.cell (p := ⟨b, o + i, none⟩) (World.block_lt_of_cell? _ _ (h.cell i hi))]; exact h.cell i hi, h.len⟩
theorem NodeAt.below {w w' : World} {p : NP} {d : ND} (h : NodeAt w p d) (hb : Below w.heap.size w w') : NodeAt w' p d := ⟨h.names.below hb, h.kids.below hb⟩
theorem NodesAt.below {w w' : World} {ao : Option Addr} {b o n : Nat} {p : Nat → NP} {G : Nat → ND} (h : NodesAt w ao b o n p G) (hb : Below w.heap.size w w') : NodesAt w' ao b o n p G :=
  ⟨h.at_, fun i hi => by rw [hb.cell (p := ⟨b, o + i * 3, none⟩) (World.block_lt_of_cell? _ _ (h.c0 i hi))]; exact h.c0 i hi,
    fun i hi => by rw [hb.cell (p := ⟨b, o + i * 3 + 1, none⟩) (World.block_lt_of_cell? _ _ (h.c1 i hi))]; exact h.c1 i hi,
    fun i hi => by rw [hb.cell (p := ⟨b, o + i * 3 + 2, none⟩) (World.block_lt_of_cell? _ _ (h.c2 i hi))]; exact h.c2 i hi,
    fun i hi => (h.node i hi).below hb, h.len⟩

theorem below_drewN' (w : World) (n : Nat) : Below w.heap.size w (w.drewN n) := ⟨rfl, rfl, rfl, Nat.le_refl _, fun _ _ => rfl⟩

end Go.Proofs.Ythbdomniookmbaa
