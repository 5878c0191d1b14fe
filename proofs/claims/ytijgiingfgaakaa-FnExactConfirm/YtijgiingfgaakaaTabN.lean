/-
  Tables in memory of their own: what may be written into without harm to others.
-/
import Derived.Test.YtijgiingfgaakaaTabTo2
namespace Go.Proofs.Ytijgiingfgaakaa
open Go.RowKit

/-- All blocks but those from lo to hi are as they were. -/
structure Span (lo hi : Nat) (w w' : World) : Prop where
  os : w'.os = w.os
  tape : w'.tape = w.tape
  output : w'.output = w.output
  size : w.heap.size ≤ w'.heap.size
  block : ∀ x, x < w.heap.size → (x < lo ∨ hi ≤ x) → w'.heap[x]? = w.heap[x]?

theorem Span.refl (lo hi : Nat) (w : World) : Span lo hi w w := ⟨rfl, rfl, rfl, Nat.le_refl _, fun _ _ _ => rfl⟩
theorem Span.trans {lo hi : Nat} {w w1 w2 : World} (h : Span lo hi w w1) (h2 : Span lo hi w1 w2) : Span lo hi w w2 :=
  ⟨h2.os.trans h.os, h2.tape.trans h.tape, h2.output.trans h.output, Nat.le_trans h.size h2.size, fun x hx hn => (h2.block x (Nat.lt_of_lt_of_le hx h.size) hn).trans (h.block x hx hn)⟩
theorem Span.below {lo hi : Nat} {w w1 w2 : World} (h : Span lo hi w w1) (hb : Below w1.heap.size w1 w2) : Span lo hi w w2 :=
  ⟨hb.os.trans h.os, hb.tape.trans h.tape, hb.output.trans h.output, Nat.le_trans h.size hb.size, fun x hx hn => (hb.block x (Nat.lt_of_lt_of_le hx h.size)).trans (h.block x hx hn)⟩
theorem Span.set {lo hi : Nat} {w w1 : World} (h : Span lo hi w w1) {b : Nat} (o : Nat) (h1 : lo ≤ b) (h2 : b < hi) (v : Value) : Span lo hi w (w1.setCell ⟨b, o, none⟩ v) :=
  ⟨h.os, h.tape, h.output, by simpa [World.setCell] using h.size, fun x hx hn => (Below.heap_setCell _ _ _ _ (by show x ≠ b; omega)).trans (h.block x hx hn)⟩
theorem Span.wide {lo hi lo' hi' : Nat} {w w' : World} (h : Span lo hi w w') (h1 : lo' ≤ lo) (h2 : hi ≤ hi') : Span lo' hi' w w' :=
  ⟨h.os, h.tape, h.output, h.size, fun x hx hn => h.block x hx (by omega)⟩
theorem Span.of_below {lo hi : Nat} {w w' : World} (h : Below w.heap.size w w') : Span lo hi w w' := (Span.refl lo hi w).below h
/-- What is made above is no matter to those below. -/
theorem Span.toBelow {lo hi base : Nat} {w w1 w2 : World} (h : Below base w w1) (h2 : Span lo hi w1 w2) (hl : base ≤ lo) (hs : base ≤ w1.heap.size) : Below base w w2 :=
  ⟨h2.os.trans h.os, h2.tape.trans h.tape, h2.output.trans h.output, Nat.le_trans h.size h2.size, fun x hx => (h2.block x (by omega) (by omega)).trans (h.block x hx)⟩

/-- A row of keys. -/
def KeysRow (w : World) (b n : Nat) (K : Nat → Int) (M : Nat → ByteArray) : Prop :=
  ∃ (N : Nat) (f : Nat → Value), w.rowIs b 37 N f ∧ n * 2 ≤ N ∧ ∀ j, j < n → f (j * 2) = .int .i64 (K j) ∧ f (j * 2 + 1) = .string (M j)

theorem KeysRow.of {w w' : World} {b n : Nat} {K : Nat → Int} {M : Nat → ByteArray} (h : KeysRow w b n K M) (hb : w'.heap[b]? = w.heap[b]?) : KeysRow w' b n K M := by
  obtain ⟨N, f, hr, hN, hf⟩ := h
  exact ⟨N, f, hr.of_block hb, hN, hf⟩
theorem KeysRow.lt {w : World} {b n : Nat} {K : Nat → Int} {M : Nat → ByteArray} (h : KeysRow w b n K M) : b < w.heap.size := by
  obtain ⟨N, f, hr, hN, hf⟩ := h
  exact hr.lt
theorem KeysRow.cells {w : World} {b n : Nat} {K : Nat → Int} {M : Nat → ByteArray} (h : KeysRow w b n K M) {j : Nat} (hj : j < n) :
    w.cell? ⟨b, j * 2, none⟩ = some (.int .i64 (K j)) ∧ w.cell? ⟨b, j * 2 + 1, none⟩ = some (.string (M j)) := by
  obtain ⟨N, f, hr, hN, hf⟩ := h
  obtain ⟨e0, e1⟩ := hf j hj
  exact ⟨by rw [hr.cell (by omega), e0], by rw [hr.cell (by omega), e1]⟩

/-- A list of keys in memory of its own. -/
structure KeysNew (w : World) (lo hi : Nat) (ao : Option Addr) (b n : Nat) (K : Nat → Int) (M : Nat → ByteArray) : Prop where
  at_ : 0 < n → ao = some ⟨b, 0, none⟩
  row : 0 < n → KeysRow w b n K M
  inn : 0 < n → lo ≤ b ∧ b < hi

theorem KeysNew.keys {w : World} {lo hi : Nat} {ao : Option Addr} {b n : Nat} {K : Nat → Int} {M : Nat → ByteArray} (h : KeysNew w lo hi ao b n K M) (hs : ∀ i, i < n → (M i).size ≤ 9223372036854775807) (hn : n ≤ 9223372036854775807) : KeysAt w ao b 0 n K M :=
  ⟨h.at_, fun i hi => by rw [Nat.zero_add]; exact ((h.row (by omega)).cells hi).1, fun i hi => by rw [Nat.zero_add]; exact ((h.row (by omega)).cells hi).2, hs, hn⟩
theorem KeysNew.span {w w' : World} {lo hi : Nat} {ao : Option Addr} {b n : Nat} {K : Nat → Int} {M : Nat → ByteArray} (h : KeysNew w lo hi ao b n K M) {l2 h2 : Nat} (hs : Span l2 h2 w w') (hd : hi ≤ l2 ∨ h2 ≤ lo) : KeysNew w' lo hi ao b n K M :=
  ⟨h.at_, fun q => (h.row q).of (hs.block b (h.row q).lt (by have := h.inn q; omega)), h.inn⟩
theorem KeysNew.below {w w' : World} {lo hi : Nat} {ao : Option Addr} {b n : Nat} {K : Nat → Int} {M : Nat → ByteArray} (h : KeysNew w lo hi ao b n K M) (hb : Below w.heap.size w w') : KeysNew w' lo hi ao b n K M :=
  ⟨h.at_, fun q => (h.row q).of (hb.block b (h.row q).lt), h.inn⟩
theorem KeysNew.wide {w : World} {lo hi lo' hi' : Nat} {ao : Option Addr} {b n : Nat} {K : Nat → Int} {M : Nat → ByteArray} (h : KeysNew w lo hi ao b n K M) (h1 : lo' ≤ lo) (h2 : hi ≤ hi') : KeysNew w lo' hi' ao b n K M :=
  ⟨h.at_, h.row, fun q => by have := h.inn q; omega⟩

/-- A slot keeps within what a machine can hold. -/
structure Fit (d : SD) : Prop where
  sm : d.m.size ≤ 9223372036854775807
  sv : d.v.size ≤ 9223372036854775807
  lo : -9223372036854775808 ≤ d.own
  hi : d.own ≤ 9223372036854775807
  ks : ∀ i, i < d.n → (d.dm i).size ≤ 9223372036854775807
  kn : d.n ≤ 9223372036854775807

theorem SlotAt.fit {w : World} {p : SP} {d : SD} (h : SlotAt w p d) : Fit d := ⟨h.sm, h.sv, h.lo, h.hi, h.keys.size, h.keys.len⟩

/-- A row of slots. -/
def SlotsRow (w : World) (b n : Nat) (p : Nat → SP) (D : Nat → SD) : Prop :=
  ∃ (N : Nat) (f : Nat → Value), w.rowIs b 40 N f ∧ n * 9 ≤ N ∧ ∀ i j, i < n → j < 9 → f (i * 9 + j) = sc (p i) (D i) j

theorem SlotsRow.of {w w' : World} {b n : Nat} {p : Nat → SP} {D : Nat → SD} (h : SlotsRow w b n p D) (hb : w'.heap[b]? = w.heap[b]?) : SlotsRow w' b n p D := by
  obtain ⟨N, f, hr, hN, hf⟩ := h
  exact ⟨N, f, hr.of_block hb, hN, hf⟩
theorem SlotsRow.lt {w : World} {b n : Nat} {p : Nat → SP} {D : Nat → SD} (h : SlotsRow w b n p D) : b < w.heap.size := by
  obtain ⟨N, f, hr, hN, hf⟩ := h
  exact hr.lt

/-- A table in memory of its own. -/
structure TabNew (w : World) (lo hi : Nat) (ao : Option Addr) (b n : Nat) (p : Nat → SP) (D : Nat → SD) : Prop where
  at_ : 0 < n → ao = some ⟨b, 0, none⟩
  row : 0 < n → SlotsRow w b n p D
  inn : 0 < n → lo ≤ b ∧ b < hi
  keys : ∀ i, i < n → KeysNew w lo hi (p i).a (p i).b (D i).n (D i).dk (D i).dm ∧ (p i).o = 0 ∧ (0 < (D i).n → (p i).b ≠ b)
  dist : ∀ i j, i < n → j < n → i ≠ j → 0 < (D i).n → 0 < (D j).n → (p i).b ≠ (p j).b

theorem TabNew.slots {w : World} {lo hi : Nat} {ao : Option Addr} {b n : Nat} {p : Nat → SP} {D : Nat → SD} (h : TabNew w lo hi ao b n p D) (hF : ∀ i, i < n → Fit (D i)) (hn : n ≤ 9223372036854775807) : SlotsAt w ao b 0 n p D := by
  refine ⟨h.at_, fun i j hi hj => ?_, fun i hi => ?_, hn⟩
  · obtain ⟨N, f, hr, hN, hf⟩ := h.row (by omega)
    rw [Nat.zero_add, hr.cell (by omega), hf i j hi hj]
  · obtain ⟨k1, k2, _⟩ := h.keys i hi
    have F := hF i hi
    refine ⟨?_, F.sm, F.sv, F.lo, F.hi⟩
    have := k1.keys F.ks F.kn
    rw [← k2] at this
    exact this
theorem TabNew.span {w w' : World} {lo hi : Nat} {ao : Option Addr} {b n : Nat} {p : Nat → SP} {D : Nat → SD} (h : TabNew w lo hi ao b n p D) {l2 h2 : Nat} (hs : Span l2 h2 w w') (hd : hi ≤ l2 ∨ h2 ≤ lo) : TabNew w' lo hi ao b n p D :=
  ⟨h.at_, fun q => (h.row q).of (hs.block b (h.row q).lt (by have := h.inn q; omega)), h.inn, fun i hi => ⟨(h.keys i hi).1.span hs hd, (h.keys i hi).2⟩, h.dist⟩
theorem TabNew.below {w w' : World} {lo hi : Nat} {ao : Option Addr} {b n : Nat} {p : Nat → SP} {D : Nat → SD} (h : TabNew w lo hi ao b n p D) (hb : Below w.heap.size w w') : TabNew w' lo hi ao b n p D :=
  ⟨h.at_, fun q => (h.row q).of (hb.block b (h.row q).lt), h.inn, fun i hi => ⟨(h.keys i hi).1.below hb, (h.keys i hi).2⟩, h.dist⟩
theorem TabNew.wide {w : World} {lo hi lo' hi' : Nat} {ao : Option Addr} {b n : Nat} {p : Nat → SP} {D : Nat → SD} (h : TabNew w lo hi ao b n p D) (h1 : lo' ≤ lo) (h2 : hi ≤ hi') : TabNew w lo' hi' ao b n p D :=
  ⟨h.at_, h.row, fun q => by have := h.inn q; omega, fun i hi => ⟨(h.keys i hi).1.wide h1 h2, (h.keys i hi).2⟩, h.dist⟩

theorem tab_none (w : World) (lo hi : Nat) (ao : Option Addr) (b : Nat) (p : Nat → SP) (D : Nat → SD) : TabNew w lo hi ao b 0 p D :=
  ⟨fun h => absurd h (Nat.lt_irrefl _), fun h => absurd h (Nat.lt_irrefl _), fun h => absurd h (Nat.lt_irrefl _), fun _ hi => absurd hi (Nat.not_lt_zero _), fun _ _ hi => absurd hi (Nat.not_lt_zero _)⟩

end Go.Proofs.Ytijgiingfgaakaa
