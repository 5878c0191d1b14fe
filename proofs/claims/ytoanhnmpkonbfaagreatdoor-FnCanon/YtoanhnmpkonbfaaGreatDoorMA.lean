/-
  Merged for the claim: Mem Eq To To2 To3.
-/
import Derived.Test.YtoanhnmpkonbfaaGreatDoorPure
import Derived.WalkKit
import Derived.WalkSmall
import Derived.Deep.OwnRows
import Derived.Deep.Draws
import Derived.Test.YtoanhnmpkonbfaaGreatDoorProg
import Derived.WalkSpells
import Derived.WalkLawsBesides
import Derived.Deep.QuietTactic
import Derived.BigQuiet
import Derived.Deep.RegionWith
import Derived.Deep.LoopGhost
namespace Go.Proofs.YtoanhnmpkonbfaaGreatDoor
open Go.RowKit

/-- The bound that every length keeps once the law has counted. -/
def lim : Nat := 1048576

/-- A slice of strings. -/
structure StrsAt (w : World) (ao : Option Addr) (b o n : Nat) (S : Nat → ByteArray) : Prop where
  at_ : 0 < n → ao = some ⟨b, o, none⟩
  cell : ∀ i, i < n → w.cell? ⟨b, o + i, none⟩ = some (.string (S i))
  size : ∀ i, i < n → (S i).size ≤ 9223372036854775807
  len : n ≤ 9223372036854775807

/-- A slice of numbers. -/
structure IntsAt (w : World) (ao : Option Addr) (b o n : Nat) (D : Nat → Int) : Prop where
  at_ : 0 < n → ao = some ⟨b, o, none⟩
  cell : ∀ i, i < n → w.cell? ⟨b, o + i, none⟩ = some (.int .i64 (D i))
  len : n ≤ 9223372036854775807

/-- Where a node's two slices begin. -/
structure NP where
  a1 : Option Addr
  b1 : Nat
  o1 : Nat
  c1 : Nat
  a2 : Option Addr
  b2 : Nat
  o2 : Nat
  c2 : Nat

/-- A node's two slices. -/
structure NodeAt (w : World) (p : NP) (d : ND) : Prop where
  names : StrsAt w p.a1 p.b1 p.o1 d.nn d.nm
  kids : IntsAt w p.a2 p.b2 p.o2 d.nk d.kd

/-- A node as a value. -/
abbrev ndv (p : NP) (d : ND) : Value := .agg #[.int .i64 d.kind, .slice p.a1 d.nn p.c1, .slice p.a2 d.nk p.c2]

/-- A slice of nodes. -/
structure NodesAt (w : World) (ao : Option Addr) (b o n : Nat) (p : Nat → NP) (G : Nat → ND) : Prop where
  at_ : 0 < n → ao = some ⟨b, o, none⟩
  c0 : ∀ i, i < n → w.cell? ⟨b, o + i * 3, none⟩ = some (.int .i64 (G i).kind)
  c1 : ∀ i, i < n → w.cell? ⟨b, o + i * 3 + 1, none⟩ = some (.slice (p i).a1 (G i).nn (p i).c1)
  c2 : ∀ i, i < n → w.cell? ⟨b, o + i * 3 + 2, none⟩ = some (.slice (p i).a2 (G i).nk (p i).c2)
  node : ∀ i, i < n → NodeAt w (p i) (G i)
  len : n ≤ 9223372036854775807

theorem StrsAt.below {w w' : World} {ao : Option Addr} {b o n : Nat} {S : Nat → ByteArray} (h : StrsAt w ao b o n S) (hb : Below w.heap.size w w') : StrsAt w' ao b o n S :=
  ⟨h.at_, fun i hi => by rw [hb.cell (p := ⟨b, o + i, none⟩) (World.block_lt_of_cell? _ _ (h.cell i hi))]; exact h.cell i hi, h.size, h.len⟩
theorem IntsAt.below {w w' : World} {ao : Option Addr} {b o n : Nat} {D : Nat → Int} (h : IntsAt w ao b o n D) (hb : Below w.heap.size w w') : IntsAt w' ao b o n D :=
  ⟨h.at_, fun i hi => by rw [hb.cell (p := ⟨b, o + i, none⟩) (World.block_lt_of_cell? _ _ (h.cell i hi))]; exact h.cell i hi, h.len⟩
theorem NodeAt.below {w w' : World} {p : NP} {d : ND} (h : NodeAt w p d) (hb : Below w.heap.size w w') : NodeAt w' p d := ⟨h.names.below hb, h.kids.below hb⟩
theorem NodesAt.below {w w' : World} {ao : Option Addr} {b o n : Nat} {p : Nat → NP} {G : Nat → ND} (h : NodesAt w ao b o n p G) (hb : Below w.heap.size w w') : NodesAt w' ao b o n p G :=
  ⟨h.at_, fun i hi => by rw [hb.cell (p := ⟨b, o + i * 3, none⟩) (World.block_lt_of_cell? _ _ (h.c0 i hi))]; exact h.c0 i hi,
    fun i hi => by rw [hb.cell (p := ⟨b, o + i * 3 + 1, none⟩) (World.block_lt_of_cell? _ _ (h.c1 i hi))]; exact h.c1 i hi,
    fun i hi => by rw [hb.cell (p := ⟨b, o + i * 3 + 2, none⟩) (World.block_lt_of_cell? _ _ (h.c2 i hi))]; exact h.c2 i hi,
    fun i hi => (h.node i hi).below hb, h.len⟩

theorem below_drewN' (w : World) (n : Nat) : Below w.heap.size w (w.drewN n) := ⟨rfl, rfl, rfl, Nat.le_refl _, fun _ _ => rfl⟩

end Go.Proofs.YtoanhnmpkonbfaaGreatDoor

namespace Go.Proofs.YtoanhnmpkonbfaaGreatDoor
open Go.RowKit

theorem bel1 (w : World) (o1 : Obj) : Below w.heap.size w (w.alloc o1) := (Below.refl _ _).alloc (Nat.le_refl _) _
theorem bel2 (w : World) (o1 o2 : Obj) : Below w.heap.size w ((w.alloc o1).alloc o2) := (bel1 w o1).alloc (by simp) _
theorem bel2d (w : World) (o1 o2 : Obj) (k : Nat) : Below w.heap.size w (((w.alloc o1).alloc o2).drewN k) := below_drewN (bel2 w o1 o2) k

end Go.Proofs.YtoanhnmpkonbfaaGreatDoor

namespace Go.Proofs.YtoanhnmpkonbfaaGreatDoor
open Go.RowKit

theorem Tryz.info3 : (Tryz.prog.info? 3).map (fun i => (i.zero, i.size, i.bytes)) = some (some (.int .i64 0), 1, 8) := by kernel_rfl
theorem Tryz.info9 : (Tryz.prog.info? 9).map (fun i => (i.zero, i.size, i.bytes)) = some (some (.string ByteArray.empty), 1, 16) := by kernel_rfl

/-- A row of the call's own, its first k cells filled. -/
structure Fill (w wr : World) (t : TypeId) (n k : Nat) (f : Nat → Value) (z : Value) : Prop where
  below : Below w.heap.size w wr
  row : wr.rowIs w.heap.size t n (fun i => if i < k then f i else z)

theorem fill_start (w : World) (t : TypeId) (n : Nat) (f : Nat → Value) (z : Value) : Fill w (w.alloc (.cells (madeCells #[z] n) t)) t n 0 f z :=
  ⟨bel1 w _, (World.rowIs_made w z n t).congr (fun i _ => by simp)⟩

theorem fill_step {w wr : World} {t : TypeId} {n k : Nat} {f : Nat → Value} {z : Value} (h : Fill w wr t n k f z) : Fill w (wr.setCell ⟨w.heap.size, k, none⟩ (f k)) t n (k + 1) f z :=
  ⟨h.below.setCell (Nat.le_refl _) _, (h.row.set k _).congr (fun i _ => by
    by_cases e : i = k
    · subst e; simp
    · rw [if_neg e]
      by_cases hlt : i < k
      · rw [if_pos hlt, if_pos (by omega)]
      · rw [if_neg hlt, if_neg (by omega)])⟩

end Go.Proofs.YtoanhnmpkonbfaaGreatDoor

namespace Go.Proofs.YtoanhnmpkonbfaaGreatDoor
open Go.RowKit

theorem bcell {W w1 : World} (hb : Below W.heap.size W w1) : (∀ b o, b < W.heap.size → w1.cell? ⟨b, o, none⟩ = W.cell? ⟨b, o, none⟩) ∧ (∀ b o, b < W.heap.size → w1.frozen? ⟨b, o, none⟩ = W.frozen? ⟨b, o, none⟩) :=
  ⟨fun b o h => hb.cell (p := ⟨b, o, none⟩) h, fun b o h => hb.frozen (p := ⟨b, o, none⟩) h⟩

theorem bel3 (w : World) (o1 o2 o3 : Obj) : Below w.heap.size w (((w.alloc o1).alloc o2).alloc o3) := (bel2 w o1 o2).alloc (by simp; omega) _

theorem StrsAt.set {w : World} {ao : Option Addr} {b o n : Nat} {S : Nat → ByteArray} (h : StrsAt w ao b o n S) {a : Addr} (ha : b ≠ a.block) (v : Value) : StrsAt (w.setCell a v) ao b o n S :=
  ⟨h.at_, fun i hi => by rw [World.cell?_setCell_other _ _ _ _ (fun e => ha (by have := congrArg Addr.block e; first | exact this | exact this.symm))]; exact h.cell i hi, h.size, h.len⟩
theorem IntsAt.set {w : World} {ao : Option Addr} {b o n : Nat} {D : Nat → Int} (h : IntsAt w ao b o n D) {a : Addr} (ha : b ≠ a.block) (v : Value) : IntsAt (w.setCell a v) ao b o n D :=
  ⟨h.at_, fun i hi => by rw [World.cell?_setCell_other _ _ _ _ (fun e => ha (by have := congrArg Addr.block e; first | exact this | exact this.symm))]; exact h.cell i hi, h.len⟩
theorem NodeAt.set {w : World} {p : NP} {d : ND} (h : NodeAt w p d) {a : Addr} (h1 : p.b1 ≠ a.block) (h2 : p.b2 ≠ a.block) (v : Value) : NodeAt (w.setCell a v) p d := ⟨h.names.set h1 v, h.kids.set h2 v⟩

/-- Three values by their place. -/
def v3 (a b c : Value) : Nat → Value := fun i => if i = 0 then a else if i = 1 then b else c

theorem row3 (w : World) (a b c : Value) (t : TypeId) : (w.alloc (.cells #[a, b, c] t)).rowIs w.heap.size t 3 (v3 a b c) :=
  World.rowIs_alloc w #[a, b, c] t _ (fun i hi => by
    match i, hi with
    | 0, _ => rfl
    | 1, _ => rfl
    | 2, _ => rfl)

/-- The three blocks that toNode lays, and nothing old has turned. -/
structure Three (w wr : World) (x0 x1 x2 y0 y1 y2 z0 z1 z2 : Value) : Prop where
  below : Below w.heap.size w wr
  box : wr.rowIs w.heap.size 45 3 (v3 x0 x1 x2)
  res : wr.rowIs (w.heap.size + 1) 39 3 (v3 y0 y1 y2)
  out : wr.rowIs (w.heap.size + 1 + 1) 39 3 (v3 z0 z1 z2)

theorem three_start (w : World) (x0 x1 x2 y0 y1 y2 z0 z1 z2 : Value) :
    Three w (((w.alloc (.cells #[x0, x1, x2] 45)).alloc (.cells #[y0, y1, y2] 39)).alloc (.cells #[z0, z1, z2] 39)) x0 x1 x2 y0 y1 y2 z0 z1 z2 := by
  have r1 := row3 (w.alloc (.cells #[x0, x1, x2] 45)) y0 y1 y2 39
  have r2 := row3 ((w.alloc (.cells #[x0, x1, x2] 45)).alloc (.cells #[y0, y1, y2] 39)) z0 z1 z2 39
  simp only [World.size_alloc] at r1 r2
  exact ⟨bel3 _ _ _ _, ((row3 w x0 x1 x2 45).alloc _).alloc _, r1.alloc _, r2⟩

theorem Three.later {w wr w' : World} {x0 x1 x2 y0 y1 y2 z0 z1 z2 : Value} (h : Three w wr x0 x1 x2 y0 y1 y2 z0 z1 z2) (hb : Below wr.heap.size wr w') : Three w w' x0 x1 x2 y0 y1 y2 z0 z1 z2 :=
  ⟨h.below.trans (hb.mono h.below.size), h.box.of_block (hb.block _ h.box.lt), h.res.of_block (hb.block _ h.res.lt), h.out.of_block (hb.block _ h.out.lt)⟩

theorem Three.out1 {w wr : World} {x0 x1 x2 y0 y1 y2 z0 z1 z2 : Value} (h : Three w wr x0 x1 x2 y0 y1 y2 z0 z1 z2) (v : Value) : Three w (wr.setCell ⟨w.heap.size + 1 + 1, 1, none⟩ v) x0 x1 x2 y0 y1 y2 z0 v z2 :=
  ⟨h.below.setCell (by show w.heap.size ≤ w.heap.size + 1 + 1; omega) _, h.box.setOther (by show w.heap.size ≠ w.heap.size + 1 + 1; omega) _, h.res.setOther (by show w.heap.size + 1 ≠ w.heap.size + 1 + 1; omega) _,
    (h.out.set 1 v).congr (fun i hi => by
      match i, hi with
      | 0, _ => rfl
      | 1, _ => rfl
      | 2, _ => rfl)⟩

end Go.Proofs.YtoanhnmpkonbfaaGreatDoor

namespace Go.Proofs.YtoanhnmpkonbfaaGreatDoor
open Go.RowKit

theorem Tryz.info39 : (Tryz.prog.info? 39).map (fun i => (i.zero, i.size, i.bytes)) = some (some (.agg #[.int .i64 0, .slice none 0 0, .slice none 0 0]), 3, 56) := by kernel_rfl

theorem make3 (n : Nat) (hn : n ≤ 1048576) (w : World) :
    (Instr.makeSlice 23 (.int .i64 (n : Int)) (.int .i64 (n : Int))).run Tryz.prog w = .ok (.slice (some ⟨w.heap.size, 0, none⟩) n n) (w.alloc (.cells (madeCells #[.int .i64 0, .slice none 0 0, .slice none 0 0] (n * 3)) 39)) := by
  obtain ⟨i, hi, hzz⟩ := Option.map_eq_some_iff.1 Tryz.info39
  simp only [Prod.mk.injEq] at hzz
  obtain ⟨hz, hs, hb⟩ := hzz
  have hr := run_make (P := Tryz.prog) w 23 39 i _ Tryz.underlying23 hi hz .i64 .i64 n n (by omega) (Int.le_refl _) (by rw [hb]; omega) (by omega)
  rw [Int.toNat_natCast, hs] at hr
  exact hr

/-- The row of new nodes, its first k filled. -/
structure Fill3 (w wr : World) (n k : Nat) (p : Nat → NP) (G : Nat → ND) : Prop where
  below : Below w.heap.size w wr
  row : ∃ f, wr.rowIs w.heap.size 39 (n * 3) f ∧ ∀ i, i < k → f (i * 3) = .int .i64 (G i).kind ∧ f (i * 3 + 1) = .slice (p i).a1 (G i).nn (p i).c1 ∧ f (i * 3 + 2) = .slice (p i).a2 (G i).nk (p i).c2
  node : ∀ i, i < k → NodeAt wr (p i) (G i) ∧ w.heap.size < (p i).b1 ∧ w.heap.size < (p i).b2

theorem fill3_start (w : World) (n : Nat) (p : Nat → NP) (G : Nat → ND) : Fill3 w (w.alloc (.cells (madeCells #[.int .i64 0, .slice none 0 0, .slice none 0 0] (n * 3)) 39)) n 0 p G := by
  refine ⟨bel1 w _, ?_, fun i hi => absurd hi (Nat.not_lt_zero _)⟩
  have h := World.rowIs_alloc w (madeCells #[.int .i64 0, .slice none 0 0, .slice none 0 0] (n * 3)) 39 (fun i => (madeCells #[.int .i64 0, .slice none 0 0, .slice none 0 0] (n * 3))[i]!) (fun i hi => by simp [hi])
  rw [size_madeCells] at h
  exact ⟨_, h, fun i hi => absurd hi (Nat.not_lt_zero _)⟩

theorem fill3_step {w wr w' : World} {n k : Nat} {p : Nat → NP} {G : Nat → ND} (h : Fill3 w wr n k p G) (hb : Below wr.heap.size wr w') (q : NP) (hq : NodeAt w' q (G k)) (h1 : wr.heap.size ≤ q.b1) (h2 : wr.heap.size ≤ q.b2) :
    Fill3 w (((w'.setCell ⟨w.heap.size, k * 3, none⟩ (.int .i64 (G k).kind)).setCell ⟨w.heap.size, k * 3 + 1, none⟩ (.slice q.a1 (G k).nn q.c1)).setCell ⟨w.heap.size, k * 3 + 2, none⟩ (.slice q.a2 (G k).nk q.c2)) n (k + 1) (fun i => if i = k then q else p i) G := by
  obtain ⟨f, hf, hv⟩ := h.row
  have hlt := hf.lt
  refine ⟨((((h.below.trans (hb.mono h.below.size)).setCell (Nat.le_refl _) _).setCell (Nat.le_refl _) _).setCell (Nat.le_refl _) _), ⟨_, (((hf.of_block (hb.block _ hlt)).set (k * 3) _).set (k * 3 + 1) _).set (k * 3 + 2) _, fun i hi => ?_⟩, fun i hi => ?_⟩
  · by_cases e : i = k
    · subst e
      refine ⟨?_, ?_, ?_⟩
      · show (if i * 3 = i * 3 + 2 then _ else if i * 3 = i * 3 + 1 then _ else if i * 3 = i * 3 then _ else _) = _
        rw [if_neg (by omega), if_neg (by omega), if_pos rfl]
      · show (if i * 3 + 1 = i * 3 + 2 then _ else if i * 3 + 1 = i * 3 + 1 then _ else _) = _
        rw [if_neg (by omega), if_pos rfl, if_pos rfl]
      · show (if i * 3 + 2 = i * 3 + 2 then _ else _) = _
        rw [if_pos rfl, if_pos rfl]
    · obtain ⟨r0, r1, r2⟩ := hv i (by omega)
      refine ⟨?_, ?_, ?_⟩
      · show (if i * 3 = k * 3 + 2 then _ else if i * 3 = k * 3 + 1 then _ else if i * 3 = k * 3 then _ else f (i * 3)) = _
        rw [if_neg (by omega), if_neg (by omega), if_neg (by omega), r0]
      · show (if i * 3 + 1 = k * 3 + 2 then _ else if i * 3 + 1 = k * 3 + 1 then _ else if i * 3 + 1 = k * 3 then _ else f (i * 3 + 1)) = _
        rw [if_neg (by omega), if_neg (by omega), if_neg (by omega), r1, if_neg e]
      · show (if i * 3 + 2 = k * 3 + 2 then _ else if i * 3 + 2 = k * 3 + 1 then _ else if i * 3 + 2 = k * 3 then _ else f (i * 3 + 2)) = _
        rw [if_neg (by omega), if_neg (by omega), if_neg (by omega), r2, if_neg e]
  · have key : ∀ (x : NP) (d : ND), NodeAt w' x d → w.heap.size < x.b1 → w.heap.size < x.b2 →
        NodeAt (((w'.setCell ⟨w.heap.size, k * 3, none⟩ (.int .i64 (G k).kind)).setCell ⟨w.heap.size, k * 3 + 1, none⟩ (.slice q.a1 (G k).nn q.c1)).setCell ⟨w.heap.size, k * 3 + 2, none⟩ (.slice q.a2 (G k).nk q.c2)) x d := fun x d hx g1 g2 =>
      (((hx.set (a := ⟨w.heap.size, k * 3, none⟩) (by show x.b1 ≠ w.heap.size; omega) (by show x.b2 ≠ w.heap.size; omega) _).set (a := ⟨w.heap.size, k * 3 + 1, none⟩) (by show x.b1 ≠ w.heap.size; omega) (by show x.b2 ≠ w.heap.size; omega) _).set
        (a := ⟨w.heap.size, k * 3 + 2, none⟩) (by show x.b1 ≠ w.heap.size; omega) (by show x.b2 ≠ w.heap.size; omega) _)
    by_cases e : i = k
    · subst e
      simp only [if_true]
      exact ⟨key q _ hq (by omega) (by omega), by omega, by omega⟩
    · obtain ⟨n1, n2, n3⟩ := h.node i (by omega)
      simp only [if_neg e]
      exact ⟨key _ _ (n1.below hb) n2 n3, n2, n3⟩

theorem NodesAt.set {w : World} {ao : Option Addr} {b o n : Nat} {p : Nat → NP} {G : Nat → ND} (h : NodesAt w ao b o n p G) {a : Addr} (ha : b ≠ a.block) (hp : ∀ i, i < n → (p i).b1 ≠ a.block ∧ (p i).b2 ≠ a.block) (v : Value) :
    NodesAt (w.setCell a v) ao b o n p G :=
  ⟨h.at_, fun i hi => by rw [World.cell?_setCell_other _ _ _ _ (fun e => ha (by have := congrArg Addr.block e; first | exact this | exact this.symm))]; exact h.c0 i hi,
    fun i hi => by rw [World.cell?_setCell_other _ _ _ _ (fun e => ha (by have := congrArg Addr.block e; first | exact this | exact this.symm))]; exact h.c1 i hi,
    fun i hi => by rw [World.cell?_setCell_other _ _ _ _ (fun e => ha (by have := congrArg Addr.block e; first | exact this | exact this.symm))]; exact h.c2 i hi,
    fun i hi => (h.node i hi).set (hp i hi).1 (hp i hi).2 v, h.len⟩

theorem row1 (w : World) (a : Value) (t : TypeId) : (w.alloc (.cells #[a] t)).rowIs w.heap.size t 1 (fun _ => a) :=
  World.rowIs_alloc w #[a] t _ (fun i hi => by
    match i, hi with
    | 0, _ => rfl)

end Go.Proofs.YtoanhnmpkonbfaaGreatDoor

