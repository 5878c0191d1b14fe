/-
  Tables: what is asked of them, and how they lie in memory.
-/
import Derived.Test.YtefplfcfoapnjaaPure
import Derived.WalkKit
import Derived.WalkSmall
import Derived.Deep.OwnRows
import Derived.Deep.Draws
namespace Go.Proofs.Ytefplfcfoapnjaa
open Go.RowKit

/-- What a slot holds. -/
structure SD where
  k : Int
  m : ByteArray
  has : Bool
  v : ByteArray
  n : Nat
  dk : Nat → Int
  dm : Nat → ByteArray
  ver : Int
  chg : Int
  own : Int
  sin : Int

/-- Where its list of keys lies. -/
structure SP where
  a : Option Addr
  b : Nat
  o : Nat
  c : Nat

/-- A key is valid. -/
def kv (k : Int) (m : ByteArray) : Bool := decide (1 ≤ k ∧ k ≤ 3) && gn m
/-- A list of keys is valid. -/
def dv (n : Nat) (K : Nat → Int) (M : Nat → ByteArray) : Bool := decide (n ≤ 1000) && allTo n fun i => kv (K i) (M i)
def free (d : SD) : Prop := d.own = 0 ∧ d.sin = 0
def held (d : SD) : Prop := 1 ≤ d.own ∧ d.own ≤ 16 ∧ 1 ≤ d.sin
instance (d : SD) : Decidable (free d) := inferInstanceAs (Decidable (_ ∧ _))
instance (d : SD) : Decidable (held d) := inferInstanceAs (Decidable (_ ∧ _))
/-- A slot is valid. -/
def sv (d : SD) : Bool :=
  kv d.k d.m && (if d.has then decide ((free d ∨ held d) ∧ 1 ≤ d.chg ∧ d.chg ≤ d.ver) && dv d.n d.dk d.dm
    else decide (held d ∧ d.v.size = 0 ∧ d.n = 0 ∧ d.ver = 0 ∧ d.chg = 0))
/-- A key is less than another. -/
def kl (k : Int) (m : ByteArray) (k' : Int) (m' : ByteArray) : Bool := decide (k < k') || (decide (k = k') && lt m m')
/-- A slot among the others. -/
def so (D : Nat → SD) (i : Nat) : Bool := sv (D i) && (decide (i = 0) || kl (D (i - 1)).k (D (i - 1)).m (D i).k (D i).m)
/-- A table is valid. -/
def vt (n : Nat) (D : Nat → SD) : Bool := decide (n ≤ 4096) && allTo n (so D)

theorem vt_big {n : Nat} {D : Nat → SD} (h : 4096 < n) : vt n D = false := by unfold vt; rw [decide_eq_false (by omega), Bool.false_and]
theorem vt_no {n : Nat} {D : Nat → SD} (k : Nat) (hk : k < n) (h : so D k = false) : vt n D = false := by unfold vt; rw [allTo_false k hk h, Bool.and_false]
theorem vt_yes {n : Nat} {D : Nat → SD} (hn : n ≤ 4096) (h : ∀ j, j < n → so D j = true) : vt n D = true := by unfold vt; rw [decide_eq_true hn, allTo_true h]; rfl
theorem dv_big {n : Nat} {K : Nat → Int} {M : Nat → ByteArray} (h : 1000 < n) : dv n K M = false := by unfold dv; rw [decide_eq_false (by omega), Bool.false_and]
theorem dv_no {n : Nat} {K : Nat → Int} {M : Nat → ByteArray} (k : Nat) (hk : k < n) (h : kv (K k) (M k) = false) : dv n K M = false := by unfold dv; rw [allTo_false k hk h, Bool.and_false]
theorem dv_yes {n : Nat} {K : Nat → Int} {M : Nat → ByteArray} (hn : n ≤ 1000) (h : ∀ j, j < n → kv (K j) (M j) = true) : dv n K M = true := by unfold dv; rw [decide_eq_true hn, allTo_true h]; rfl
theorem so_s {D : Nat → SD} {i : Nat} (h : sv (D i) = false) : so D i = false := by unfold so; rw [h, Bool.false_and]
theorem so_k {D : Nat → SD} {i : Nat} (h : kl (D i).k (D i).m (D (i + 1)).k (D (i + 1)).m = false) : so D (i + 1) = false := by unfold so; rw [Nat.add_sub_cancel, h]; simp
theorem so_0 {D : Nat → SD} (h : sv (D 0) = true) : so D 0 = true := by unfold so; rw [h]; rfl
theorem so_y {D : Nat → SD} {i : Nat} (h1 : sv (D (i + 1)) = true) (h : kl (D i).k (D i).m (D (i + 1)).k (D (i + 1)).m = true) : so D (i + 1) = true := by unfold so; rw [Nat.add_sub_cancel, h, h1]; simp

/-- A slice of keys. -/
structure KeysAt (w : World) (ao : Option Addr) (b o n : Nat) (K : Nat → Int) (M : Nat → ByteArray) : Prop where
  at_ : 0 < n → ao = some ⟨b, o, none⟩
  c0 : ∀ i, i < n → w.cell? ⟨b, o + i * 2, none⟩ = some (.int .i64 (K i))
  c1 : ∀ i, i < n → w.cell? ⟨b, o + i * 2 + 1, none⟩ = some (.string (M i))
  size : ∀ i, i < n → (M i).size ≤ 9223372036854775807
  len : n ≤ 9223372036854775807

theorem KeysAt.below {w w' : World} {ao : Option Addr} {b o n : Nat} {K : Nat → Int} {M : Nat → ByteArray} (h : KeysAt w ao b o n K M) (hb : Below w.heap.size w w') : KeysAt w' ao b o n K M :=
  ⟨h.at_, fun i hi => by rw [hb.cell (p := ⟨b, o + i * 2, none⟩) (World.block_lt_of_cell? _ _ (h.c0 i hi))]; exact h.c0 i hi,
    fun i hi => by rw [hb.cell (p := ⟨b, o + i * 2 + 1, none⟩) (World.block_lt_of_cell? _ _ (h.c1 i hi))]; exact h.c1 i hi, h.size, h.len⟩

theorem KeysAt.set {w : World} {ao : Option Addr} {b o n : Nat} {K : Nat → Int} {M : Nat → ByteArray} (h : KeysAt w ao b o n K M) {a : Addr} (ha : b ≠ a.block) (v : Value) : KeysAt (w.setCell a v) ao b o n K M :=
  ⟨h.at_, fun i hi => by rw [World.cell?_setCell_other _ _ _ _ (fun e => ha (by have := congrArg Addr.block e; first | exact this | exact this.symm))]; exact h.c0 i hi,
    fun i hi => by rw [World.cell?_setCell_other _ _ _ _ (fun e => ha (by have := congrArg Addr.block e; first | exact this | exact this.symm))]; exact h.c1 i hi, h.size, h.len⟩

/-- A slot's cells. -/
def sc (p : SP) (d : SD) : Nat → Value
  | 0 => .int .i64 d.k
  | 1 => .string d.m
  | 2 => .bool d.has
  | 3 => .string d.v
  | 4 => .slice p.a d.n p.c
  | 5 => .int .i64 d.ver
  | 6 => .int .i64 d.chg
  | 7 => .int .i64 d.own
  | _ => .int .i64 d.sin

/-- A slot as a value. -/
abbrev sdv (p : SP) (d : SD) : Value := .agg #[.int .i64 d.k, .string d.m, .bool d.has, .string d.v, .slice p.a d.n p.c, .int .i64 d.ver, .int .i64 d.chg, .int .i64 d.own, .int .i64 d.sin]

/-- What a slot has besides its cells. -/
structure SlotAt (w : World) (p : SP) (d : SD) : Prop where
  keys : KeysAt w p.a p.b p.o d.n d.dk d.dm
  sm : d.m.size ≤ 9223372036854775807
  sv : d.v.size ≤ 9223372036854775807
  lo : -9223372036854775808 ≤ d.own
  hi : d.own ≤ 9223372036854775807

theorem SlotAt.below {w w' : World} {p : SP} {d : SD} (h : SlotAt w p d) (hb : Below w.heap.size w w') : SlotAt w' p d := ⟨h.keys.below hb, h.sm, h.sv, h.lo, h.hi⟩
theorem SlotAt.set {w : World} {p : SP} {d : SD} (h : SlotAt w p d) {a : Addr} (ha : p.b ≠ a.block) (v : Value) : SlotAt (w.setCell a v) p d := ⟨h.keys.set ha v, h.sm, h.sv, h.lo, h.hi⟩

/-- A slice of slots. -/
structure SlotsAt (w : World) (ao : Option Addr) (b o n : Nat) (p : Nat → SP) (D : Nat → SD) : Prop where
  at_ : 0 < n → ao = some ⟨b, o, none⟩
  cell : ∀ i j, i < n → j < 9 → w.cell? ⟨b, o + i * 9 + j, none⟩ = some (sc (p i) (D i) j)
  slot : ∀ i, i < n → SlotAt w (p i) (D i)
  len : n ≤ 9223372036854775807

theorem SlotsAt.below {w w' : World} {ao : Option Addr} {b o n : Nat} {p : Nat → SP} {D : Nat → SD} (h : SlotsAt w ao b o n p D) (hb : Below w.heap.size w w') : SlotsAt w' ao b o n p D :=
  ⟨h.at_, fun i j hi hj => by rw [hb.cell (p := ⟨b, o + i * 9 + j, none⟩) (World.block_lt_of_cell? _ _ (h.cell i j hi hj))]; exact h.cell i j hi hj,
    fun i hi => (h.slot i hi).below hb, h.len⟩

theorem SlotsAt.set {w : World} {ao : Option Addr} {b o n : Nat} {p : Nat → SP} {D : Nat → SD} (h : SlotsAt w ao b o n p D) {a : Addr} (ha : b ≠ a.block) (hp : ∀ i, i < n → (p i).b ≠ a.block) (v : Value) : SlotsAt (w.setCell a v) ao b o n p D :=
  ⟨h.at_, fun i j hi hj => by rw [World.cell?_setCell_other _ _ _ _ (fun e => ha (by have := congrArg Addr.block e; first | exact this | exact this.symm))]; exact h.cell i j hi hj,
    fun i hi => (h.slot i hi).set (hp i hi) v, h.len⟩

theorem SlotsAt.nine {w : World} {ao : Option Addr} {b o n : Nat} {p : Nat → SP} {D : Nat → SD} (h : SlotsAt w ao b o n p D) (i : Nat) (hi : i < n) :
    w.cell? ⟨b, o + i * 9, none⟩ = some (.int .i64 (D i).k) ∧ w.cell? ⟨b, o + i * 9 + 1, none⟩ = some (.string (D i).m) ∧ w.cell? ⟨b, o + i * 9 + 2, none⟩ = some (.bool (D i).has) ∧
    w.cell? ⟨b, o + i * 9 + 3, none⟩ = some (.string (D i).v) ∧ w.cell? ⟨b, o + i * 9 + 4, none⟩ = some (.slice (p i).a (D i).n (p i).c) ∧ w.cell? ⟨b, o + i * 9 + 5, none⟩ = some (.int .i64 (D i).ver) ∧
    w.cell? ⟨b, o + i * 9 + 6, none⟩ = some (.int .i64 (D i).chg) ∧ w.cell? ⟨b, o + i * 9 + 7, none⟩ = some (.int .i64 (D i).own) ∧ w.cell? ⟨b, o + i * 9 + 8, none⟩ = some (.int .i64 (D i).sin) :=
  ⟨h.cell i 0 hi (by omega), h.cell i 1 hi (by omega), h.cell i 2 hi (by omega), h.cell i 3 hi (by omega), h.cell i 4 hi (by omega), h.cell i 5 hi (by omega), h.cell i 6 hi (by omega), h.cell i 7 hi (by omega), h.cell i 8 hi (by omega)⟩

end Go.Proofs.Ytefplfcfoapnjaa
