/-
  The contracts of the functions that copy, more.
-/
import Derived.Test.YtfjfnfgaopdfeaaTo
import Derived.Deep.RegionWith
namespace Go.Proofs.Ytfjfnfgaopdfeaa
open Go.RowKit

theorem bcell {W w1 : World} (hb : Below W.heap.size W w1) : (∀ b o, b < W.heap.size → w1.cell? ⟨b, o, none⟩ = W.cell? ⟨b, o, none⟩) ∧ (∀ b o, b < W.heap.size → w1.frozen? ⟨b, o, none⟩ = W.frozen? ⟨b, o, none⟩) :=
  ⟨fun b o h => hb.cell (p := ⟨b, o, none⟩) h, fun b o h => hb.frozen (p := ⟨b, o, none⟩) h⟩

theorem bel3 (w : World) (o1 o2 o3 : Obj) : Below w.heap.size w (((w.alloc o1).alloc o2).alloc o3) := (bel2 w o1 o2).alloc (by simp; omega) _

theorem StrsAt.set {w : World} {ao : Option Addr} {b o n : Nat} {S : Nat → ByteArray} (h : StrsAt w ao b o n S) {a : Addr} (ha : b ≠ a.block) (v : Value) : StrsAt (w.setCell a v) ao b o n S :=
  ⟨h.at_, fun i hi => by rw [World.cell?_setCell_other _ _ _ _ (fun e => ha (by have := congrArg Addr.block e; first | exact this | exact this.symm))]; exact h.cell i hi, h.size, h.len⟩
theorem IntsAt.set {w : World} {ao : Option Addr} {b o n : Nat} {D : Nat → Int} (h : IntsAt w ao b o n D) {a : Addr} (ha : b ≠ a.block) (v : Value) : IntsAt (w.setCell a v) ao b o n D :=
  ⟨h.at_, fun i hi => by rw [World.cell?_setCell_other _ _ _ _ (fun e => ha (by have := congrArg Addr.block e; first | exact this | exact this.symm))]; exact h.cell i hi, h.len⟩
theorem NodeAt.set {w : World} {p : NP} {d : ND} (h : NodeAt w p d) {a : Addr} (h1 : p.b1 ≠ a.block) (h2 : p.b2 ≠ a.block) (v : Value) : NodeAt (w.setCell a v) p d := ⟨h.names.set h1 v, h.kids.set h2 v⟩

/-- Three values by their place. -/
def v3 (a b c : Value) : Nat → Value := fun i => if i = 0 then a else if i = 1 then b else c

theorem row3 (w : World) (a b c : Value) (t : TypeId) : (w.alloc (.cells #[a, b, c] t)).rowIs w.heap.size t 3 (v3 a b c) :=
  World.rowIs_alloc w #[a, b, c] t _ (fun i hi => by
    match i, hi with
    | 0, _ => rfl
    | 1, _ => rfl
    | 2, _ => rfl)

/-- The three blocks that toNode lays, and nothing old has turned. -/
structure Three (w wr : World) (x0 x1 x2 y0 y1 y2 z0 z1 z2 : Value) : Prop where
  below : Below w.heap.size w wr
  box : wr.rowIs w.heap.size 44 3 (v3 x0 x1 x2)
  res : wr.rowIs (w.heap.size + 1) 38 3 (v3 y0 y1 y2)
  out : wr.rowIs (w.heap.size + 1 + 1) 38 3 (v3 z0 z1 z2)

theorem three_start (w : World) (x0 x1 x2 y0 y1 y2 z0 z1 z2 : Value) :
    Three w (((w.alloc (.cells #[x0, x1, x2] 44)).alloc (.cells #[y0, y1, y2] 38)).alloc (.cells #[z0, z1, z2] 38)) x0 x1 x2 y0 y1 y2 z0 z1 z2 := by
  have r1 := row3 (w.alloc (.cells #[x0, x1, x2] 44)) y0 y1 y2 38
  have r2 := row3 ((w.alloc (.cells #[x0, x1, x2] 44)).alloc (.cells #[y0, y1, y2] 38)) z0 z1 z2 38
  simp only [World.size_alloc] at r1 r2
  exact ⟨bel3 _ _ _ _, ((row3 w x0 x1 x2 44).alloc _).alloc _, r1.alloc _, r2⟩

theorem Three.later {w wr w' : World} {x0 x1 x2 y0 y1 y2 z0 z1 z2 : Value} (h : Three w wr x0 x1 x2 y0 y1 y2 z0 z1 z2) (hb : Below wr.heap.size wr w') : Three w w' x0 x1 x2 y0 y1 y2 z0 z1 z2 :=
  ⟨h.below.trans (hb.mono h.below.size), h.box.of_block (hb.block _ h.box.lt), h.res.of_block (hb.block _ h.res.lt), h.out.of_block (hb.block _ h.out.lt)⟩

theorem Three.out1 {w wr : World} {x0 x1 x2 y0 y1 y2 z0 z1 z2 : Value} (h : Three w wr x0 x1 x2 y0 y1 y2 z0 z1 z2) (v : Value) : Three w (wr.setCell ⟨w.heap.size + 1 + 1, 1, none⟩ v) x0 x1 x2 y0 y1 y2 z0 v z2 :=
  ⟨h.below.setCell (by show w.heap.size ≤ w.heap.size + 1 + 1; omega) _, h.box.setOther (by show w.heap.size ≠ w.heap.size + 1 + 1; omega) _, h.res.setOther (by show w.heap.size + 1 ≠ w.heap.size + 1 + 1; omega) _,
    (h.out.set 1 v).congr (fun i hi => by
      match i, hi with
      | 0, _ => rfl
      | 1, _ => rfl
      | 2, _ => rfl)⟩

set_option maxHeartbeats 1000000 in
theorem c18 (p : NP) (d : ND) (w : World) (h1 : NodeAt w p d) (hn : d.nn ≤ 1048576) (hk : d.nk ≤ 1048576) :
    Calls Try.prog 18 #[ndv p d] w fun e w' => ∃ p', e = .returned (ndv p' d) ∧ NodeAt w' p' d ∧ Below w.heap.size w w' ∧ w.heap.size ≤ p'.b1 ∧ w.heap.size ≤ p'.b2 := by
  have HB : Hid (∀ w', Below w.heap.size w w' → NodeAt w' p d) := fun w' hb => h1.below hb
  clear h1
  unfold ndv
  go_enter Try.func18, Try.ntmps18
  go_wp2_with fail
  refine (c25 p.a1 p.b1 p.o1 d.nn p.c1 d.nm _ (by exact (HB.out _ (bel3 _ _ _ _)).names) hn).mono ?_
  rintro e w1 ⟨rfl, hs1, hb1, hz1⟩
  have T1 := (three_start w (.int .i64 d.kind) (.slice p.a1 d.nn p.c1) (.slice p.a2 d.nk p.c2) (.int .i64 0) (.slice none 0 0) (.slice none 0 0) (.int .i64 d.kind) (.slice none 0 0) (.slice none 0 0)).later hb1
  have hz : w.heap.size + 1 + 1 + 1 < w1.heap.size := by simpa using hz1
  have hs : StrsAt w1 (some ⟨w.heap.size + 1 + 1 + 1, 0, none⟩) (w.heap.size + 1 + 1 + 1) 0 d.nn d.nm := by simpa using hs1
  clear hz1 hb1 hs1
  have k0 : w1.cell? ⟨w.heap.size, 2, none⟩ = some (.slice p.a2 d.nk p.c2) := T1.box.cell (i := 2) (by omega)
  have k1 : w1.cell? ⟨w.heap.size + 1 + 1, 1, none⟩ = some (.slice none 0 0) := T1.out.cell (i := 1) (by omega)
  have k2 := T1.out.frozen 1
  go_wp2_with fail
  have T2 := T1.out1 (.slice (some ⟨w.heap.size + 1 + 1 + 1, 0, none⟩) d.nn d.nn)
  refine (c26 p.a2 p.b2 p.o2 d.nk p.c2 d.kd _ (by exact (HB.out _ T2.below).kids) hk).mono ?_
  rintro e w2 ⟨rfl, hs2, hb2, hz2⟩
  have T3 := T2.later hb2
  have q1 : StrsAt w2 (some ⟨w.heap.size + 1 + 1 + 1, 0, none⟩) (w.heap.size + 1 + 1 + 1) 0 d.nn d.nm := (hs.set (by show w.heap.size + 1 + 1 + 1 ≠ w.heap.size + 1 + 1; omega) _).below hb2
  have q2 : IntsAt w2 (some ⟨w1.heap.size, 0, none⟩) w1.heap.size 0 d.nk d.kd := by simpa using hs2
  clear hs2 hb2 hz2 T2 T1 k0 k1 k2 hs HB
  have k0 : w2.cell? ⟨w.heap.size + 1 + 1, 0, none⟩ = some (.int .i64 d.kind) := T3.out.cell (i := 0) (by omega)
  have k1 : w2.cell? ⟨w.heap.size + 1 + 1, 1, none⟩ = some (.slice (some ⟨w.heap.size + 1 + 1 + 1, 0, none⟩) d.nn d.nn) := T3.out.cell (i := 1) (by omega)
  have k2 : w2.cell? ⟨w.heap.size + 1 + 1, 2, none⟩ = some (.slice none 0 0) := T3.out.cell (i := 2) (by omega)
  have k3 := T3.out.frozen 2
  have m0 : w2.cell? ⟨w.heap.size + 1, 0, none⟩ = some (.int .i64 0) := T3.res.cell (i := 0) (by omega)
  have m1 : w2.cell? ⟨w.heap.size + 1, 1, none⟩ = some (.slice none 0 0) := T3.res.cell (i := 1) (by omega)
  have m2 : w2.cell? ⟨w.heap.size + 1, 2, none⟩ = some (.slice none 0 0) := T3.res.cell (i := 2) (by omega)
  have f0 := T3.res.frozen 0
  have f1 := T3.res.frozen 1
  have f2 := T3.res.frozen 2
  go_wp2_with fail
  have hw1 : w.heap.size + 1 + 1 < w1.heap.size := by omega
  have hB := (((T3.below.setCell (p := ⟨w.heap.size + 1 + 1, 2, none⟩) (by show w.heap.size ≤ w.heap.size + 1 + 1; omega) (.slice (some ⟨w1.heap.size, 0, none⟩) d.nk d.nk)).setCell (p := ⟨w.heap.size + 1, 0, none⟩) (by show w.heap.size ≤ w.heap.size + 1; omega) (.int .i64 d.kind)).setCell
    (p := ⟨w.heap.size + 1, 1, none⟩) (by show w.heap.size ≤ w.heap.size + 1; omega) (.slice (some ⟨w.heap.size + 1 + 1 + 1, 0, none⟩) d.nn d.nn)).setCell (p := ⟨w.heap.size + 1, 2, none⟩) (by show w.heap.size ≤ w.heap.size + 1; omega) (.slice (some ⟨w1.heap.size, 0, none⟩) d.nk d.nk)
  have e1 := (((q1.set (a := ⟨w.heap.size + 1 + 1, 2, none⟩) (by show w.heap.size + 1 + 1 + 1 ≠ w.heap.size + 1 + 1; omega) (.slice (some ⟨w1.heap.size, 0, none⟩) d.nk d.nk)).set (a := ⟨w.heap.size + 1, 0, none⟩) (by show w.heap.size + 1 + 1 + 1 ≠ w.heap.size + 1; omega) (.int .i64 d.kind)).set
    (a := ⟨w.heap.size + 1, 1, none⟩) (by show w.heap.size + 1 + 1 + 1 ≠ w.heap.size + 1; omega) (.slice (some ⟨w.heap.size + 1 + 1 + 1, 0, none⟩) d.nn d.nn)).set (a := ⟨w.heap.size + 1, 2, none⟩) (by show w.heap.size + 1 + 1 + 1 ≠ w.heap.size + 1; omega) (.slice (some ⟨w1.heap.size, 0, none⟩) d.nk d.nk)
  have e2 := (((q2.set (a := ⟨w.heap.size + 1 + 1, 2, none⟩) (by show w1.heap.size ≠ w.heap.size + 1 + 1; omega) (.slice (some ⟨w1.heap.size, 0, none⟩) d.nk d.nk)).set (a := ⟨w.heap.size + 1, 0, none⟩) (by show w1.heap.size ≠ w.heap.size + 1; omega) (.int .i64 d.kind)).set
    (a := ⟨w.heap.size + 1, 1, none⟩) (by show w1.heap.size ≠ w.heap.size + 1; omega) (.slice (some ⟨w.heap.size + 1 + 1 + 1, 0, none⟩) d.nn d.nn)).set (a := ⟨w.heap.size + 1, 2, none⟩) (by show w1.heap.size ≠ w.heap.size + 1; omega) (.slice (some ⟨w1.heap.size, 0, none⟩) d.nk d.nk)
  exact bodyPost_ret (v := .agg #[.int .i64 d.kind, .slice (some ⟨w.heap.size + 1 + 1 + 1, 0, none⟩) d.nn d.nn, .slice (some ⟨w1.heap.size, 0, none⟩) d.nk d.nk])
    (by simp [results, Try.results18, go_sem, m0, m1, m2]) rfl
    ⟨⟨some ⟨w.heap.size + 1 + 1 + 1, 0, none⟩, w.heap.size + 1 + 1 + 1, 0, d.nn, some ⟨w1.heap.size, 0, none⟩, w1.heap.size, 0, d.nk⟩, rfl, ⟨e1, e2⟩, hB, by show w.heap.size ≤ w.heap.size + 1 + 1 + 1; omega, by show w.heap.size ≤ w1.heap.size; omega⟩

end Go.Proofs.Ytfjfnfgaopdfeaa
