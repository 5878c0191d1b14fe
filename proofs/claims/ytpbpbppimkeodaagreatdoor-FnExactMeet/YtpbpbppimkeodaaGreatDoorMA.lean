/-
  Merged for the claim: Mem Eq To To2 To3.
-/
import Derived.Test.YtpbpbppimkeodaaGreatDoorPure
import Derived.WalkKit
import Derived.WalkSmall
import Derived.Deep.OwnRows
import Derived.Deep.Draws
import Derived.Test.YtpbpbppimkeodaaGreatDoorProg
import Derived.WalkSpells
import Derived.WalkLawsBesides
import Derived.Deep.QuietTactic
import Derived.BigQuiet
import Derived.Deep.RegionWith
import Derived.Deep.LoopGhost
namespace Go.Proofs.YtpbpbppimkeodaaGreatDoor
open Go.RowKit

/-- The bound that every length keeps once the law has counted. -/
def lim : Nat := 1048576

/-- A slice of strings. -/
structure StrsAt (w : World) (ao : Option Addr) (b o n : Nat) (S : Nat → ByteArray) : Prop where
  at_ : 0 < n → ao = some ⟨b, o, none⟩
  cell : ∀ i, i < n → w.cell? ⟨b, o + i, none⟩ = some (.string (S i))
  size : ∀ i, i < n → (S i).size ≤ 9223372036854775807
  len : n ≤ 9223372036854775807

/-- A slice of numbers. -/
structure IntsAt (w : World) (ao : Option Addr) (b o n : Nat) (D : Nat → Int) : Prop where
  at_ : 0 < n → ao = some ⟨b, o, none⟩
  cell : ∀ i, i < n → w.cell? ⟨b, o + i, none⟩ = some (.int .i64 (D i))
  len : n ≤ 9223372036854775807

/-- Where a node's two slices begin. -/
structure NP where
  a1 : Option Addr
  b1 : Nat
  o1 : Nat
  c1 : Nat
  a2 : Option Addr
  b2 : Nat
  o2 : Nat
  c2 : Nat

/-- A node's two slices. -/
structure NodeAt (w : World) (p : NP) (d : ND) : Prop where
  names : StrsAt w p.a1 p.b1 p.o1 d.nn d.nm
  kids : IntsAt w p.a2 p.b2 p.o2 d.nk d.kd

/-- A node as a value. -/
abbrev ndv (p : NP) (d : ND) : Value := .agg #[.int .i64 d.kind, .slice p.a1 d.nn p.c1, .slice p.a2 d.nk p.c2]

/-- A slice of nodes. -/
structure NodesAt (w : World) (ao : Option Addr) (b o n : Nat) (p : Nat → NP) (G : Nat → ND) : Prop where
  at_ : 0 < n → ao = some ⟨b, o, none⟩
  c0 : ∀ i, i < n → w.cell? ⟨b, o + i * 3, none⟩ = some (.int .i64 (G i).kind)
  c1 : ∀ i, i < n → w.cell? ⟨b, o + i * 3 + 1, none⟩ = some (.slice (p i).a1 (G i).nn (p i).c1)
  c2 : ∀ i, i < n → w.cell? ⟨b, o + i * 3 + 2, none⟩ = some (.slice (p i).a2 (G i).nk (p i).c2)
  node : ∀ i, i < n → NodeAt w (p i) (G i)
  len : n ≤ 9223372036854775807

theorem StrsAt.below {w w' : World} {ao : Option Addr} {b o n : Nat} {S : Nat → ByteArray} (h : StrsAt w ao b o n S) (hb : Below w.heap.size w w') : StrsAt w' ao b o n S :=
  ⟨h.at_, fun i hi => by rw [hb.cell (p := ⟨b, o + i, none⟩) (World.block_lt_of_cell? _ _ (h.cell i hi))]; exact h.cell i hi, h.size, h.len⟩
theorem IntsAt.below {w w' : World} {ao : Option Addr} {b o n : Nat} {D : Nat → Int} (h : IntsAt w ao b o n D) (hb : Below w.heap.size w w') : IntsAt w' ao b o n D :=
  ⟨h.at_, fun i hi => by rw [hb.cell (p := ⟨b, o + i, none⟩) (World.block_lt_of_cell? _ _ (h.cell i hi))]; exact h.cell i hi, h.len⟩
theorem NodeAt.below {w w' : World} {p : NP} {d : ND} (h : NodeAt w p d) (hb : Below w.heap.size w w') : NodeAt w' p d := ⟨h.names.below hb, h.kids.below hb⟩
theorem NodesAt.below {w w' : World} {ao : Option Addr} {b o n : Nat} {p : Nat → NP} {G : Nat → ND} (h : NodesAt w ao b o n p G) (hb : Below w.heap.size w w') : NodesAt w' ao b o n p G :=
  ⟨h.at_, fun i hi => by rw [hb.cell (p := ⟨b, o + i * 3, none⟩) (World.block_lt_of_cell? _ _ (h.c0 i hi))]; exact h.c0 i hi,
    fun i hi => by rw [hb.cell (p := ⟨b, o + i * 3 + 1, none⟩) (World.block_lt_of_cell? _ _ (h.c1 i hi))]; exact h.c1 i hi,
    fun i hi => by rw [hb.cell (p := ⟨b, o + i * 3 + 2, none⟩) (World.block_lt_of_cell? _ _ (h.c2 i hi))]; exact h.c2 i hi,
    fun i hi => (h.node i hi).below hb, h.len⟩

theorem below_drewN' (w : World) (n : Nat) : Below w.heap.size w (w.drewN n) := ⟨rfl, rfl, rfl, Nat.le_refl _, fun _ _ => rfl⟩

/-- A block that may be written into. -/
def Wr (w : World) (b : Nat) : Prop := ∃ c t, w.heap[b]? = some (.cells c t (0, 0))

theorem Wr.of {w w' : World} {b : Nat} (h : Wr w b) (e : w'.heap[b]? = w.heap[b]?) : Wr w' b := by
  obtain ⟨c, t, h⟩ := h
  exact ⟨c, t, e.trans h⟩
theorem Wr.lt {w : World} {b : Nat} (h : Wr w b) : b < w.heap.size := by
  obtain ⟨c, t, h⟩ := h
  exact (Array.getElem?_eq_some_iff.1 h).1
theorem Wr.below {w w' : World} {b : Nat} (h : Wr w b) (hb : Below w.heap.size w w') : Wr w' b := h.of (hb.block b h.lt)
theorem Wr.set {w : World} {b : Nat} (h : Wr w b) {a : Addr} (ha : b ≠ a.block) (v : Value) : Wr (w.setCell a v) b := h.of (Below.heap_setCell _ _ _ _ ha)
theorem wr_row {w : World} {b : Nat} {t : TypeId} {n : Nat} {f : Nat → Value} (h : w.rowIs b t n f) : Wr w b := by
  obtain ⟨c, h, _⟩ := h
  exact ⟨c, t, h⟩

/-- The lists of two nodes lie apart. -/
def SepIJ (q : Nat → NP) (G : Nat → ND) (i j : Nat) : Prop :=
  (i ≠ j → 0 < (G i).nn → 0 < (G j).nn → (q i).b1 ≠ (q j).b1) ∧ (i ≠ j → 0 < (G i).nk → 0 < (G j).nk → (q i).b2 ≠ (q j).b2) ∧ (0 < (G i).nn → 0 < (G j).nk → (q i).b1 ≠ (q j).b2)

/-- A graph in memory of its own: no two of its lists in one block. -/
structure OwnG (w : World) (n b : Nat) (p : Nat → NP) (G : Nat → ND) : Prop where
  row : 0 < n → Wr w b
  node : ∀ i, i < n → (0 < (G i).nn → Wr w (p i).b1 ∧ (p i).b1 ≠ b) ∧ (0 < (G i).nk → Wr w (p i).b2 ∧ (p i).b2 ≠ b)
  sep : ∀ i j, i < n → j < n → SepIJ p G i j

/-- And a list of numbers beside it. -/
structure OwnL (w : World) (n R b lb : Nat) (p : Nat → NP) (G : Nat → ND) : Prop where
  list : 0 < R → Wr w lb
  row : 0 < R → 0 < n → lb ≠ b
  node : 0 < R → ∀ i, i < n → (0 < (G i).nn → (p i).b1 ≠ lb) ∧ (0 < (G i).nk → (p i).b2 ≠ lb)

theorem OwnG.of {w w' : World} {n b : Nat} {p : Nat → NP} {G : Nat → ND} (h : OwnG w n b p G) (hr : 0 < n → w'.heap[b]? = w.heap[b]?) (hn : ∀ i, i < n → (0 < (G i).nn → w'.heap[(p i).b1]? = w.heap[(p i).b1]?) ∧ (0 < (G i).nk → w'.heap[(p i).b2]? = w.heap[(p i).b2]?)) : OwnG w' n b p G :=
  ⟨fun z => (h.row z).of (hr z), fun i hi => ⟨fun z => ⟨((h.node i hi).1 z).1.of ((hn i hi).1 z), ((h.node i hi).1 z).2⟩, fun z => ⟨((h.node i hi).2 z).1.of ((hn i hi).2 z), ((h.node i hi).2 z).2⟩⟩, h.sep⟩
theorem OwnG.below {w w' : World} {n b : Nat} {p : Nat → NP} {G : Nat → ND} (h : OwnG w n b p G) (hb : Below w.heap.size w w') : OwnG w' n b p G :=
  h.of (fun z => hb.block b (h.row z).lt) (fun i hi => ⟨fun z => hb.block _ ((h.node i hi).1 z).1.lt, fun z => hb.block _ ((h.node i hi).2 z).1.lt⟩)
theorem OwnL.of {w w' : World} {n R b lb : Nat} {p : Nat → NP} {G : Nat → ND} (h : OwnL w n R b lb p G) (hr : 0 < R → w'.heap[lb]? = w.heap[lb]?) : OwnL w' n R b lb p G :=
  ⟨fun z => (h.list z).of (hr z), h.row, h.node⟩
theorem OwnL.below {w w' : World} {n R b lb : Nat} {p : Nat → NP} {G : Nat → ND} (h : OwnL w n R b lb p G) (hb : Below w.heap.size w w') : OwnL w' n R b lb p G :=
  h.of (fun z => hb.block lb (h.list z).lt)

/-- All of it lies in new memory. -/
structure FreshG (base n R b' lb : Nat) (p' : Nat → NP) (G : Nat → ND) : Prop where
  row : base ≤ b'
  node : ∀ i, i < n → (0 < (G i).nn → base ≤ (p' i).b1) ∧ (0 < (G i).nk → base ≤ (p' i).b2)
  list : 0 < R → base ≤ lb

end Go.Proofs.YtpbpbppimkeodaaGreatDoor

namespace Go.Proofs.YtpbpbppimkeodaaGreatDoor
open Go.RowKit

set_option maxHeartbeats 1000000 in
theorem c38 (ao ao' : Option Addr) (b o c b' o' c' n : Nat) (D : Nat → Int) (w : World) (h1 : IntsAt w ao b o n D) (h2 : IntsAt w ao' b' o' n D) :
    Calls Tryz.prog 13 #[.slice ao n c, .slice ao' n c'] w fun e w' => e = .returned (.bool true) ∧ ∃ k, w' = w.drewN k := by
  have hlen := h1.len
  go_enter Tryz.func13, Tryz.ntmps13
  go_wp2
  go_loopw [5] (fun i wr => ∃ k : Nat, k ≤ n ∧ i = .int .i64 k ∧ ∃ m, wr = w.drewN m) (fun i _ => n - (intOf i).toNat)
  case atStart => exact ⟨0, Nat.zero_le _, rfl, 0, rfl⟩
  case round =>
    obtain ⟨k, hk, rfl, m, rfl⟩ := hrel
    by_cases hlt : k < n
    · have e1 := h1.at_ (by omega)
      have e2 := h2.at_ (by omega)
      have g1 := h1.cell k hlt
      have g2 := h2.cell k hlt
      subst e1 e2
      go_wp2
      go_quiet (fail)
      go_wp2
      go_roundw
      case rel => exact ⟨k + 1, by omega, by go_num, _, rfl⟩
      case measure => simp [intOf]; omega
    · go_wp2
      go_ret
      exact ⟨rfl, _, rfl⟩

set_option maxHeartbeats 1000000 in
theorem c37 (ao ao' : Option Addr) (b o c b' o' c' n : Nat) (S : Nat → ByteArray) (w : World) (h1 : StrsAt w ao b o n S) (h2 : StrsAt w ao' b' o' n S) :
    Calls Tryz.prog 85 #[.slice ao n c, .slice ao' n c'] w fun e w' => e = .returned (.bool true) ∧ ∃ k, w' = w.drewN k := by
  have hlen := h1.len
  go_enter Tryz.func85, Tryz.ntmps85
  go_wp2
  go_loopw [5] (fun i wr => ∃ k : Nat, k ≤ n ∧ i = .int .i64 k ∧ ∃ m, wr = w.drewN m) (fun i _ => n - (intOf i).toNat)
  case atStart => exact ⟨0, Nat.zero_le _, rfl, 0, rfl⟩
  case round =>
    obtain ⟨k, hk, rfl, m, rfl⟩ := hrel
    by_cases hlt : k < n
    · have e1 := h1.at_ (by omega)
      have e2 := h2.at_ (by omega)
      have g1 := h1.cell k hlt
      have g2 := h2.cell k hlt
      subst e1 e2
      go_wp2
      go_quiet (fail)
      go_wp2
      go_roundw
      case rel => exact ⟨k + 1, by omega, by go_num, _, rfl⟩
      case measure => simp [intOf]; omega
    · go_wp2
      go_ret
      exact ⟨rfl, _, rfl⟩

theorem bel1 (w : World) (o1 : Obj) : Below w.heap.size w (w.alloc o1) := (Below.refl _ _).alloc (Nat.le_refl _) _
theorem bel2 (w : World) (o1 o2 : Obj) : Below w.heap.size w ((w.alloc o1).alloc o2) := (bel1 w o1).alloc (by simp) _
theorem bel2d (w : World) (o1 o2 : Obj) (k : Nat) : Below w.heap.size w (((w.alloc o1).alloc o2).drewN k) := below_drewN (bel2 w o1 o2) k

set_option maxHeartbeats 1000000 in
theorem c29 (p p' : NP) (d : ND) (w : World) (h1 : NodeAt w p d) (h2 : NodeAt w p' d) :
    Calls Tryz.prog 57 #[ndv p d, ndv p' d] w fun e w' => e = .returned (.bool true) ∧ Below w.heap.size w w' := by
  have HB : Hid (∀ w', Below w.heap.size w w' → NodeAt w' p d ∧ NodeAt w' p' d) := fun w' hb => ⟨h1.below hb, h2.below hb⟩
  clear h1 h2
  unfold ndv
  go_enter Tryz.func57, Tryz.ntmps57
  go_wp2_with fail
  refine (c37 p.a1 p'.a1 p.b1 p.o1 p.c1 p'.b1 p'.o1 p'.c1 d.nn d.nm _ (by exact (HB.out _ (bel2 _ _ _)).1.names) (by exact (HB.out _ (bel2 _ _ _)).2.names)).mono ?_
  rintro e w' ⟨rfl, k, rfl⟩
  go_wp2_with fail
  refine (c38 p.a2 p'.a2 p.b2 p.o2 p.c2 p'.b2 p'.o2 p'.c2 d.nk d.kd _ (by exact (HB.out _ (bel2d _ _ _ _)).1.kids) (by exact (HB.out _ (bel2d _ _ _ _)).2.kids)).mono ?_
  rintro e w' ⟨rfl, k', rfl⟩
  go_wp2
  go_ret
  exact ⟨rfl, bel2d _ _ _ _⟩

set_option maxHeartbeats 2000000 in
theorem c19 (ao ao' : Option Addr) (b o c b' o' c' n : Nat) (p p' : Nat → NP) (G : Nat → ND) (w : World) (h1 : NodesAt w ao b o n p G) (h2 : NodesAt w ao' b' o' n p' G) :
    Calls Tryz.prog 35 #[.slice ao n c, .slice ao' n c'] w fun e w' => e = .returned (.bool true) ∧ Below w.heap.size w w' := by
  have hlen := h1.len
  have HB : Hid (∀ w', Below w.heap.size w w' → NodesAt w' ao b o n p G ∧ NodesAt w' ao' b' o' n p' G) := fun w' hb => ⟨h1.below hb, h2.below hb⟩
  have A1 := h1.at_
  have A2 := h2.at_
  clear h1 h2
  go_enter Tryz.func35, Tryz.ntmps35
  go_wp2
  go_loopw [5] (fun i wr => ∃ k : Nat, k ≤ n ∧ i = .int .i64 k ∧ Below w.heap.size w wr) (fun i _ => n - (intOf i).toNat)
  case atStart => exact ⟨0, Nat.zero_le _, rfl, Below.refl _ _⟩
  case round =>
    obtain ⟨k, hk, rfl, hb⟩ := hrel
    by_cases hlt : k < n
    · have e1 := A1 (by omega)
      have e2 := A2 (by omega)
      obtain ⟨q1, q2⟩ := HB.out wr hb
      have g0 := q1.c0 k hlt
      have g1 := q1.c1 k hlt
      have g2 := q1.c2 k hlt
      have f0 := q2.c0 k hlt
      have f1 := q2.c1 k hlt
      have f2 := q2.c2 k hlt
      have N1 : NodeAt wr.drew (p k) (G k) := (q1.node k hlt).below (Below.refl _ _).drew
      have N2 : NodeAt wr.drew (p' k) (G k) := (q2.node k hlt).below (Below.refl _ _).drew
      clear q1 q2 HB
      subst e1 e2
      go_wp2
      go_region_with (go_at_call 57; refine (c29 (p k) (p' k) (G k) _ N1 N2).mono ?_; rintro e w' ⟨rfl, hb'⟩)
      all_goals
        go_wp2
        go_roundw
        case rel => exact ⟨k + 1, by omega, by go_num, hb.trans (Below.trans (Below.refl _ _).drew (hb'.mono hb.size))⟩
        case measure => simp [intOf]; omega
    · go_wp2
      go_ret
      exact ⟨rfl, hb⟩

set_option maxHeartbeats 1000000 in
theorem c8 (ao ao' : Option Addr) (b o c b' o' c' n : Nat) (p p' : Nat → NP) (G : Nat → ND) (w : World) (h1 : NodesAt w ao b o n p G) (h2 : NodesAt w ao' b' o' n p' G) :
    Calls Tryz.prog 12 #[.agg #[.slice ao n c], .agg #[.slice ao' n c']] w fun e w' => e = .returned (.bool true) ∧ Below w.heap.size w w' := by
  have HB : Hid (∀ w', Below w.heap.size w w' → NodesAt w' ao b o n p G ∧ NodesAt w' ao' b' o' n p' G) := fun w' hb => ⟨h1.below hb, h2.below hb⟩
  clear h1 h2
  go_enter Tryz.func12, Tryz.ntmps12
  go_wp2_with fail
  refine (c19 ao ao' b o c b' o' c' n p p' G _ (by exact (HB.out _ (bel2 _ _ _)).1) (by exact (HB.out _ (bel2 _ _ _)).2)).mono ?_
  rintro e w' ⟨rfl, hb⟩
  go_wp2
  go_ret
  exact ⟨rfl, (bel2 _ _ _).trans (hb.mono (by simp; omega))⟩

end Go.Proofs.YtpbpbppimkeodaaGreatDoor

namespace Go.Proofs.YtpbpbppimkeodaaGreatDoor
open Go.RowKit

theorem Tryz.info3 : (Tryz.prog.info? 3).map (fun i => (i.zero, i.size, i.bytes)) = some (some (.int .i64 0), 1, 8) := by kernel_rfl
theorem Tryz.info9 : (Tryz.prog.info? 9).map (fun i => (i.zero, i.size, i.bytes)) = some (some (.string ByteArray.empty), 1, 16) := by kernel_rfl

/-- A row of the call's own, its first k cells filled. -/
structure Fill (w wr : World) (t : TypeId) (n k : Nat) (f : Nat → Value) (z : Value) : Prop where
  below : Below w.heap.size w wr
  row : wr.rowIs w.heap.size t n (fun i => if i < k then f i else z)

theorem fill_start (w : World) (t : TypeId) (n : Nat) (f : Nat → Value) (z : Value) : Fill w (w.alloc (.cells (madeCells #[z] n) t)) t n 0 f z :=
  ⟨bel1 w _, (World.rowIs_made w z n t).congr (fun i _ => by simp)⟩

theorem fill_step {w wr : World} {t : TypeId} {n k : Nat} {f : Nat → Value} {z : Value} (h : Fill w wr t n k f z) : Fill w (wr.setCell ⟨w.heap.size, k, none⟩ (f k)) t n (k + 1) f z :=
  ⟨h.below.setCell (Nat.le_refl _) _, (h.row.set k _).congr (fun i _ => by
    by_cases e : i = k
    · subst e; simp
    · rw [if_neg e]
      by_cases hlt : i < k
      · rw [if_pos hlt, if_pos (by omega)]
      · rw [if_neg hlt, if_neg (by omega)])⟩

set_option maxHeartbeats 1000000 in
theorem c35 (ao : Option Addr) (b o n c : Nat) (D : Nat → Int) (w : World) (h1 : IntsAt w ao b o n D) (hn : n ≤ 1048576) :
    Calls Tryz.prog 10 #[.slice ao n c] w fun e w' => e = .returned (.slice (some ⟨w.heap.size, 0, none⟩) n n) ∧ IntsAt w' (some ⟨w.heap.size, 0, none⟩) w.heap.size 0 n D ∧ Below w.heap.size w w' ∧ w.heap.size < w'.heap.size ∧ Wr w' w.heap.size := by
  have hmk := run_make_row' (P := Tryz.prog) 25 3 (.int .i64 0) 8 Tryz.underlying25 Tryz.info3 rfl .i64 .i64 n (by omega) (by omega)
  go_enter Tryz.func10, Tryz.ntmps10
  go_wp2
  clear hmk
  go_loopw [4] (fun i wr => ∃ k : Nat, k ≤ n ∧ i = .int .i64 k ∧ Fill w wr 3 n k (fun i => .int .i64 (D i)) (.int .i64 0)) (fun i _ => n - (intOf i).toNat)
  case atStart => exact ⟨0, Nat.zero_le _, rfl, fill_start _ _ _ _ _⟩
  case round =>
    obtain ⟨k, hk, rfl, hF⟩ := hrel
    by_cases hlt : k < n
    · have e1 := h1.at_ (by omega)
      have g1 := (h1.below hF.below).cell k hlt
      have s1 := hF.row.cell hlt
      have s2 := hF.row.frozen k
      simp only [Nat.lt_irrefl, if_false] at s1
      have HN := fill_step hF
      clear hF
      subst e1
      go_wp2
      go_roundw
      case rel => exact ⟨k + 1, by omega, by go_num, HN⟩
      case measure => simp [intOf]; omega
    · have hkn : k = n := by omega
      subst hkn
      have HE : Hid (IntsAt wr (some ⟨w.heap.size, 0, none⟩) w.heap.size 0 k D ∧ Below w.heap.size w wr ∧ w.heap.size < wr.heap.size ∧ Wr wr w.heap.size) :=
        ⟨⟨fun _ => rfl, fun i hi => by rw [Nat.zero_add, hF.row.cell hi, if_pos hi], by omega⟩, hF.below, hF.row.lt, wr_row hF.row⟩
      clear hF
      go_wp2
      go_ret
      exact ⟨rfl, HE.out⟩

set_option maxHeartbeats 1000000 in
theorem c34 (ao : Option Addr) (b o n c : Nat) (S : Nat → ByteArray) (w : World) (h1 : StrsAt w ao b o n S) (hn : n ≤ 1048576) :
    Calls Tryz.prog 76 #[.slice ao n c] w fun e w' => e = .returned (.slice (some ⟨w.heap.size, 0, none⟩) n n) ∧ StrsAt w' (some ⟨w.heap.size, 0, none⟩) w.heap.size 0 n S ∧ Below w.heap.size w w' ∧ w.heap.size < w'.heap.size ∧ Wr w' w.heap.size := by
  have hmk := run_make_row' (P := Tryz.prog) 46 9 (.string ByteArray.empty) 16 Tryz.underlying46 Tryz.info9 rfl .i64 .i64 n (by omega) (by omega)
  have HS : Hid (∀ i, i < n → (S i).size ≤ 9223372036854775807) := h1.size
  go_enter Tryz.func76, Tryz.ntmps76
  go_wp2
  clear hmk
  go_loopw [4] (fun i wr => ∃ k : Nat, k ≤ n ∧ i = .int .i64 k ∧ Fill w wr 9 n k (fun i => .string (S i)) (.string ByteArray.empty)) (fun i _ => n - (intOf i).toNat)
  case atStart => exact ⟨0, Nat.zero_le _, rfl, fill_start _ _ _ _ _⟩
  case round =>
    obtain ⟨k, hk, rfl, hF⟩ := hrel
    by_cases hlt : k < n
    · have e1 := h1.at_ (by omega)
      have g1 := (h1.below hF.below).cell k hlt
      have s1 := hF.row.cell hlt
      have s2 := hF.row.frozen k
      simp only [Nat.lt_irrefl, if_false] at s1
      have HN := fill_step hF
      clear hF
      subst e1
      go_wp2
      go_roundw
      case rel => exact ⟨k + 1, by omega, by go_num, HN⟩
      case measure => simp [intOf]; omega
    · have hkn : k = n := by omega
      subst hkn
      have HE : Hid (StrsAt wr (some ⟨w.heap.size, 0, none⟩) w.heap.size 0 k S ∧ Below w.heap.size w wr ∧ w.heap.size < wr.heap.size ∧ Wr wr w.heap.size) :=
        ⟨⟨fun _ => rfl, fun i hi => by rw [Nat.zero_add, hF.row.cell hi, if_pos hi], HS.out, by omega⟩, hF.below, hF.row.lt, wr_row hF.row⟩
      clear hF
      go_wp2
      go_ret
      exact ⟨rfl, HE.out⟩

end Go.Proofs.YtpbpbppimkeodaaGreatDoor

namespace Go.Proofs.YtpbpbppimkeodaaGreatDoor
open Go.RowKit

theorem bcell {W w1 : World} (hb : Below W.heap.size W w1) : (∀ b o, b < W.heap.size → w1.cell? ⟨b, o, none⟩ = W.cell? ⟨b, o, none⟩) ∧ (∀ b o, b < W.heap.size → w1.frozen? ⟨b, o, none⟩ = W.frozen? ⟨b, o, none⟩) :=
  ⟨fun b o h => hb.cell (p := ⟨b, o, none⟩) h, fun b o h => hb.frozen (p := ⟨b, o, none⟩) h⟩

theorem bel3 (w : World) (o1 o2 o3 : Obj) : Below w.heap.size w (((w.alloc o1).alloc o2).alloc o3) := (bel2 w o1 o2).alloc (by simp; omega) _

theorem StrsAt.set {w : World} {ao : Option Addr} {b o n : Nat} {S : Nat → ByteArray} (h : StrsAt w ao b o n S) {a : Addr} (ha : b ≠ a.block) (v : Value) : StrsAt (w.setCell a v) ao b o n S :=
  ⟨h.at_, fun i hi => by rw [World.cell?_setCell_other _ _ _ _ (fun e => ha (by have := congrArg Addr.block e; first | exact this | exact this.symm))]; exact h.cell i hi, h.size, h.len⟩
theorem IntsAt.set {w : World} {ao : Option Addr} {b o n : Nat} {D : Nat → Int} (h : IntsAt w ao b o n D) {a : Addr} (ha : b ≠ a.block) (v : Value) : IntsAt (w.setCell a v) ao b o n D :=
  ⟨h.at_, fun i hi => by rw [World.cell?_setCell_other _ _ _ _ (fun e => ha (by have := congrArg Addr.block e; first | exact this | exact this.symm))]; exact h.cell i hi, h.len⟩
theorem NodeAt.set {w : World} {p : NP} {d : ND} (h : NodeAt w p d) {a : Addr} (h1 : p.b1 ≠ a.block) (h2 : p.b2 ≠ a.block) (v : Value) : NodeAt (w.setCell a v) p d := ⟨h.names.set h1 v, h.kids.set h2 v⟩

/-- Three values by their place. -/
def v3 (a b c : Value) : Nat → Value := fun i => if i = 0 then a else if i = 1 then b else c

theorem row3 (w : World) (a b c : Value) (t : TypeId) : (w.alloc (.cells #[a, b, c] t)).rowIs w.heap.size t 3 (v3 a b c) :=
  World.rowIs_alloc w #[a, b, c] t _ (fun i hi => by
    match i, hi with
    | 0, _ => rfl
    | 1, _ => rfl
    | 2, _ => rfl)

/-- The three blocks that toNode lays, and nothing old has turned. -/
structure Three (w wr : World) (x0 x1 x2 y0 y1 y2 z0 z1 z2 : Value) : Prop where
  below : Below w.heap.size w wr
  box : wr.rowIs w.heap.size 72 3 (v3 x0 x1 x2)
  res : wr.rowIs (w.heap.size + 1) 48 3 (v3 y0 y1 y2)
  out : wr.rowIs (w.heap.size + 1 + 1) 48 3 (v3 z0 z1 z2)

theorem three_start (w : World) (x0 x1 x2 y0 y1 y2 z0 z1 z2 : Value) :
    Three w (((w.alloc (.cells #[x0, x1, x2] 72)).alloc (.cells #[y0, y1, y2] 48)).alloc (.cells #[z0, z1, z2] 48)) x0 x1 x2 y0 y1 y2 z0 z1 z2 := by
  have r1 := row3 (w.alloc (.cells #[x0, x1, x2] 72)) y0 y1 y2 48
  have r2 := row3 ((w.alloc (.cells #[x0, x1, x2] 72)).alloc (.cells #[y0, y1, y2] 48)) z0 z1 z2 48
  simp only [World.size_alloc] at r1 r2
  exact ⟨bel3 _ _ _ _, ((row3 w x0 x1 x2 72).alloc _).alloc _, r1.alloc _, r2⟩

theorem Three.later {w wr w' : World} {x0 x1 x2 y0 y1 y2 z0 z1 z2 : Value} (h : Three w wr x0 x1 x2 y0 y1 y2 z0 z1 z2) (hb : Below wr.heap.size wr w') : Three w w' x0 x1 x2 y0 y1 y2 z0 z1 z2 :=
  ⟨h.below.trans (hb.mono h.below.size), h.box.of_block (hb.block _ h.box.lt), h.res.of_block (hb.block _ h.res.lt), h.out.of_block (hb.block _ h.out.lt)⟩

theorem Three.out1 {w wr : World} {x0 x1 x2 y0 y1 y2 z0 z1 z2 : Value} (h : Three w wr x0 x1 x2 y0 y1 y2 z0 z1 z2) (v : Value) : Three w (wr.setCell ⟨w.heap.size + 1 + 1, 1, none⟩ v) x0 x1 x2 y0 y1 y2 z0 v z2 :=
  ⟨h.below.setCell (by show w.heap.size ≤ w.heap.size + 1 + 1; omega) _, h.box.setOther (by show w.heap.size ≠ w.heap.size + 1 + 1; omega) _, h.res.setOther (by show w.heap.size + 1 ≠ w.heap.size + 1 + 1; omega) _,
    (h.out.set 1 v).congr (fun i hi => by
      match i, hi with
      | 0, _ => rfl
      | 1, _ => rfl
      | 2, _ => rfl)⟩

set_option maxHeartbeats 1000000 in
theorem c23 (p : NP) (d : ND) (w : World) (h1 : NodeAt w p d) (hn : d.nn ≤ 1048576) (hk : d.nk ≤ 1048576) :
    Calls Tryz.prog 53 #[ndv p d] w fun e w' => ∃ p', e = .returned (ndv p' d) ∧ NodeAt w' p' d ∧ Below w.heap.size w w' ∧ w.heap.size ≤ p'.b1 ∧ w.heap.size ≤ p'.b2 ∧ Wr w' p'.b1 ∧ Wr w' p'.b2 ∧ p'.b1 ≠ p'.b2 := by
  have HB : Hid (∀ w', Below w.heap.size w w' → NodeAt w' p d) := fun w' hb => h1.below hb
  clear h1
  unfold ndv
  go_enter Tryz.func53, Tryz.ntmps53
  go_wp2_with fail
  refine (c34 p.a1 p.b1 p.o1 d.nn p.c1 d.nm _ (by exact (HB.out _ (bel3 _ _ _ _)).names) hn).mono ?_
  rintro e w1 ⟨rfl, hs1, hb1, hz1, hv1⟩
  have T1 := (three_start w (.int .i64 d.kind) (.slice p.a1 d.nn p.c1) (.slice p.a2 d.nk p.c2) (.int .i64 0) (.slice none 0 0) (.slice none 0 0) (.int .i64 d.kind) (.slice none 0 0) (.slice none 0 0)).later hb1
  have hz : w.heap.size + 1 + 1 + 1 < w1.heap.size := by simpa using hz1
  have hs : StrsAt w1 (some ⟨w.heap.size + 1 + 1 + 1, 0, none⟩) (w.heap.size + 1 + 1 + 1) 0 d.nn d.nm := by simpa using hs1
  have hv : Wr w1 (w.heap.size + 1 + 1 + 1) := by simpa using hv1
  clear hz1 hb1 hs1 hv1
  have k0 : w1.cell? ⟨w.heap.size, 2, none⟩ = some (.slice p.a2 d.nk p.c2) := T1.box.cell (i := 2) (by omega)
  have k1 : w1.cell? ⟨w.heap.size + 1 + 1, 1, none⟩ = some (.slice none 0 0) := T1.out.cell (i := 1) (by omega)
  have k2 := T1.out.frozen 1
  go_wp2_with fail
  have T2 := T1.out1 (.slice (some ⟨w.heap.size + 1 + 1 + 1, 0, none⟩) d.nn d.nn)
  refine (c35 p.a2 p.b2 p.o2 d.nk p.c2 d.kd _ (by exact (HB.out _ T2.below).kids) hk).mono ?_
  rintro e w2 ⟨rfl, hs2, hb2, hz2, hv2⟩
  have T3 := T2.later hb2
  have q1 : StrsAt w2 (some ⟨w.heap.size + 1 + 1 + 1, 0, none⟩) (w.heap.size + 1 + 1 + 1) 0 d.nn d.nm := (hs.set (by show w.heap.size + 1 + 1 + 1 ≠ w.heap.size + 1 + 1; omega) _).below hb2
  have q2 : IntsAt w2 (some ⟨w1.heap.size, 0, none⟩) w1.heap.size 0 d.nk d.kd := by simpa using hs2
  have g1 : Wr w2 (w.heap.size + 1 + 1 + 1) := (hv.set (a := ⟨w.heap.size + 1 + 1, 1, none⟩) (by show w.heap.size + 1 + 1 + 1 ≠ w.heap.size + 1 + 1; omega) _).below hb2
  have g2 : Wr w2 w1.heap.size := by simpa using hv2
  clear hs2 hb2 hz2 T2 T1 k0 k1 k2 hs HB hv hv2
  have k0 : w2.cell? ⟨w.heap.size + 1 + 1, 0, none⟩ = some (.int .i64 d.kind) := T3.out.cell (i := 0) (by omega)
  have k1 : w2.cell? ⟨w.heap.size + 1 + 1, 1, none⟩ = some (.slice (some ⟨w.heap.size + 1 + 1 + 1, 0, none⟩) d.nn d.nn) := T3.out.cell (i := 1) (by omega)
  have k2 : w2.cell? ⟨w.heap.size + 1 + 1, 2, none⟩ = some (.slice none 0 0) := T3.out.cell (i := 2) (by omega)
  have k3 := T3.out.frozen 2
  have m0 : w2.cell? ⟨w.heap.size + 1, 0, none⟩ = some (.int .i64 0) := T3.res.cell (i := 0) (by omega)
  have m1 : w2.cell? ⟨w.heap.size + 1, 1, none⟩ = some (.slice none 0 0) := T3.res.cell (i := 1) (by omega)
  have m2 : w2.cell? ⟨w.heap.size + 1, 2, none⟩ = some (.slice none 0 0) := T3.res.cell (i := 2) (by omega)
  have f0 := T3.res.frozen 0
  have f1 := T3.res.frozen 1
  have f2 := T3.res.frozen 2
  go_wp2_with fail
  have hw1 : w.heap.size + 1 + 1 < w1.heap.size := by omega
  have hB := (((T3.below.setCell (p := ⟨w.heap.size + 1 + 1, 2, none⟩) (by show w.heap.size ≤ w.heap.size + 1 + 1; omega) (.slice (some ⟨w1.heap.size, 0, none⟩) d.nk d.nk)).setCell (p := ⟨w.heap.size + 1, 0, none⟩) (by show w.heap.size ≤ w.heap.size + 1; omega) (.int .i64 d.kind)).setCell
    (p := ⟨w.heap.size + 1, 1, none⟩) (by show w.heap.size ≤ w.heap.size + 1; omega) (.slice (some ⟨w.heap.size + 1 + 1 + 1, 0, none⟩) d.nn d.nn)).setCell (p := ⟨w.heap.size + 1, 2, none⟩) (by show w.heap.size ≤ w.heap.size + 1; omega) (.slice (some ⟨w1.heap.size, 0, none⟩) d.nk d.nk)
  have e1 := (((q1.set (a := ⟨w.heap.size + 1 + 1, 2, none⟩) (by show w.heap.size + 1 + 1 + 1 ≠ w.heap.size + 1 + 1; omega) (.slice (some ⟨w1.heap.size, 0, none⟩) d.nk d.nk)).set (a := ⟨w.heap.size + 1, 0, none⟩) (by show w.heap.size + 1 + 1 + 1 ≠ w.heap.size + 1; omega) (.int .i64 d.kind)).set
    (a := ⟨w.heap.size + 1, 1, none⟩) (by show w.heap.size + 1 + 1 + 1 ≠ w.heap.size + 1; omega) (.slice (some ⟨w.heap.size + 1 + 1 + 1, 0, none⟩) d.nn d.nn)).set (a := ⟨w.heap.size + 1, 2, none⟩) (by show w.heap.size + 1 + 1 + 1 ≠ w.heap.size + 1; omega) (.slice (some ⟨w1.heap.size, 0, none⟩) d.nk d.nk)
  have e2 := (((q2.set (a := ⟨w.heap.size + 1 + 1, 2, none⟩) (by show w1.heap.size ≠ w.heap.size + 1 + 1; omega) (.slice (some ⟨w1.heap.size, 0, none⟩) d.nk d.nk)).set (a := ⟨w.heap.size + 1, 0, none⟩) (by show w1.heap.size ≠ w.heap.size + 1; omega) (.int .i64 d.kind)).set
    (a := ⟨w.heap.size + 1, 1, none⟩) (by show w1.heap.size ≠ w.heap.size + 1; omega) (.slice (some ⟨w.heap.size + 1 + 1 + 1, 0, none⟩) d.nn d.nn)).set (a := ⟨w.heap.size + 1, 2, none⟩) (by show w1.heap.size ≠ w.heap.size + 1; omega) (.slice (some ⟨w1.heap.size, 0, none⟩) d.nk d.nk)
  exact bodyPost_ret (v := .agg #[.int .i64 d.kind, .slice (some ⟨w.heap.size + 1 + 1 + 1, 0, none⟩) d.nn d.nn, .slice (some ⟨w1.heap.size, 0, none⟩) d.nk d.nk])
    (by simp [results, Tryz.results53, go_sem, m0, m1, m2]) rfl
    ⟨⟨some ⟨w.heap.size + 1 + 1 + 1, 0, none⟩, w.heap.size + 1 + 1 + 1, 0, d.nn, some ⟨w1.heap.size, 0, none⟩, w1.heap.size, 0, d.nk⟩, rfl, ⟨e1, e2⟩, hB, by show w.heap.size ≤ w.heap.size + 1 + 1 + 1; omega, by show w.heap.size ≤ w1.heap.size; omega, ((((g1.set (a := ⟨w.heap.size + 1 + 1, 2, none⟩) (by show w.heap.size + 1 + 1 + 1 ≠ w.heap.size + 1 + 1; omega) (.slice (some ⟨w1.heap.size, 0, none⟩) d.nk d.nk)).set (a := ⟨w.heap.size + 1, 0, none⟩) (by show w.heap.size + 1 + 1 + 1 ≠ w.heap.size + 1; omega) (.int .i64 d.kind)).set (a := ⟨w.heap.size + 1, 1, none⟩) (by show w.heap.size + 1 + 1 + 1 ≠ w.heap.size + 1; omega) (.slice (some ⟨w.heap.size + 1 + 1 + 1, 0, none⟩) d.nn d.nn)).set (a := ⟨w.heap.size + 1, 2, none⟩) (by show w.heap.size + 1 + 1 + 1 ≠ w.heap.size + 1; omega) (.slice (some ⟨w1.heap.size, 0, none⟩) d.nk d.nk)), ((((g2.set (a := ⟨w.heap.size + 1 + 1, 2, none⟩) (by show w1.heap.size ≠ w.heap.size + 1 + 1; omega) (.slice (some ⟨w1.heap.size, 0, none⟩) d.nk d.nk)).set (a := ⟨w.heap.size + 1, 0, none⟩) (by show w1.heap.size ≠ w.heap.size + 1; omega) (.int .i64 d.kind)).set (a := ⟨w.heap.size + 1, 1, none⟩) (by show w1.heap.size ≠ w.heap.size + 1; omega) (.slice (some ⟨w.heap.size + 1 + 1 + 1, 0, none⟩) d.nn d.nn)).set (a := ⟨w.heap.size + 1, 2, none⟩) (by show w1.heap.size ≠ w.heap.size + 1; omega) (.slice (some ⟨w1.heap.size, 0, none⟩) d.nk d.nk)), by show w.heap.size + 1 + 1 + 1 ≠ w1.heap.size; omega⟩

end Go.Proofs.YtpbpbppimkeodaaGreatDoor

namespace Go.Proofs.YtpbpbppimkeodaaGreatDoor
open Go.RowKit

theorem Tryz.info48 : (Tryz.prog.info? 48).map (fun i => (i.zero, i.size, i.bytes)) = some (some (.agg #[.int .i64 0, .slice none 0 0, .slice none 0 0]), 3, 56) := by kernel_rfl

theorem make3 (n : Nat) (hn : n ≤ 1048576) (w : World) :
    (Instr.makeSlice 27 (.int .i64 (n : Int)) (.int .i64 (n : Int))).run Tryz.prog w = .ok (.slice (some ⟨w.heap.size, 0, none⟩) n n) (w.alloc (.cells (madeCells #[.int .i64 0, .slice none 0 0, .slice none 0 0] (n * 3)) 48)) := by
  obtain ⟨i, hi, hzz⟩ := Option.map_eq_some_iff.1 Tryz.info48
  simp only [Prod.mk.injEq] at hzz
  obtain ⟨hz, hs, hb⟩ := hzz
  have hr := run_make (P := Tryz.prog) w 27 48 i _ Tryz.underlying27 hi hz .i64 .i64 n n (by omega) (Int.le_refl _) (by rw [hb]; omega) (by omega)
  rw [Int.toNat_natCast, hs] at hr
  exact hr

/-- The row of new nodes, its first k filled. -/
structure Fill3 (w wr : World) (n k : Nat) (p : Nat → NP) (G : Nat → ND) : Prop where
  below : Below w.heap.size w wr
  row : ∃ f, wr.rowIs w.heap.size 48 (n * 3) f ∧ ∀ i, i < k → f (i * 3) = .int .i64 (G i).kind ∧ f (i * 3 + 1) = .slice (p i).a1 (G i).nn (p i).c1 ∧ f (i * 3 + 2) = .slice (p i).a2 (G i).nk (p i).c2
  node : ∀ i, i < k → NodeAt wr (p i) (G i) ∧ w.heap.size < (p i).b1 ∧ w.heap.size < (p i).b2
  live : ∀ i, i < k → Wr wr (p i).b1 ∧ Wr wr (p i).b2
  sep : ∀ i j, i < k → j < k → SepIJ p G i j

theorem fill3_start (w : World) (n : Nat) (p : Nat → NP) (G : Nat → ND) : Fill3 w (w.alloc (.cells (madeCells #[.int .i64 0, .slice none 0 0, .slice none 0 0] (n * 3)) 48)) n 0 p G := by
  refine ⟨bel1 w _, ?_, fun i hi => absurd hi (Nat.not_lt_zero _), fun i hi => absurd hi (Nat.not_lt_zero _), fun i j hi => absurd hi (Nat.not_lt_zero _)⟩
  have h := World.rowIs_alloc w (madeCells #[.int .i64 0, .slice none 0 0, .slice none 0 0] (n * 3)) 48 (fun i => (madeCells #[.int .i64 0, .slice none 0 0, .slice none 0 0] (n * 3))[i]!) (fun i hi => by simp [hi])
  rw [size_madeCells] at h
  exact ⟨_, h, fun i hi => absurd hi (Nat.not_lt_zero _)⟩

theorem fill3_step {w wr w' : World} {n k : Nat} {p : Nat → NP} {G : Nat → ND} (h : Fill3 w wr n k p G) (hb : Below wr.heap.size wr w') (q : NP) (hq : NodeAt w' q (G k)) (h1 : wr.heap.size ≤ q.b1) (h2 : wr.heap.size ≤ q.b2) (h3 : Wr w' q.b1) (h4 : Wr w' q.b2) (h5 : q.b1 ≠ q.b2) :
    Fill3 w (((w'.setCell ⟨w.heap.size, k * 3, none⟩ (.int .i64 (G k).kind)).setCell ⟨w.heap.size, k * 3 + 1, none⟩ (.slice q.a1 (G k).nn q.c1)).setCell ⟨w.heap.size, k * 3 + 2, none⟩ (.slice q.a2 (G k).nk q.c2)) n (k + 1) (fun i => if i = k then q else p i) G := by
  obtain ⟨f, hf, hv⟩ := h.row
  have hlt := hf.lt
  refine ⟨((((h.below.trans (hb.mono h.below.size)).setCell (Nat.le_refl _) _).setCell (Nat.le_refl _) _).setCell (Nat.le_refl _) _), ⟨_, (((hf.of_block (hb.block _ hlt)).set (k * 3) _).set (k * 3 + 1) _).set (k * 3 + 2) _, fun i hi => ?_⟩, fun i hi => ?_, fun i hi => ?_, fun i j hi hj => ?_⟩
  · by_cases e : i = k
    · subst e
      refine ⟨?_, ?_, ?_⟩
      · show (if i * 3 = i * 3 + 2 then _ else if i * 3 = i * 3 + 1 then _ else if i * 3 = i * 3 then _ else _) = _
        rw [if_neg (by omega), if_neg (by omega), if_pos rfl]
      · show (if i * 3 + 1 = i * 3 + 2 then _ else if i * 3 + 1 = i * 3 + 1 then _ else _) = _
        rw [if_neg (by omega), if_pos rfl, if_pos rfl]
      · show (if i * 3 + 2 = i * 3 + 2 then _ else _) = _
        rw [if_pos rfl, if_pos rfl]
    · obtain ⟨r0, r1, r2⟩ := hv i (by omega)
      refine ⟨?_, ?_, ?_⟩
      · show (if i * 3 = k * 3 + 2 then _ else if i * 3 = k * 3 + 1 then _ else if i * 3 = k * 3 then _ else f (i * 3)) = _
        rw [if_neg (by omega), if_neg (by omega), if_neg (by omega), r0]
      · show (if i * 3 + 1 = k * 3 + 2 then _ else if i * 3 + 1 = k * 3 + 1 then _ else if i * 3 + 1 = k * 3 then _ else f (i * 3 + 1)) = _
        rw [if_neg (by omega), if_neg (by omega), if_neg (by omega), r1, if_neg e]
      · show (if i * 3 + 2 = k * 3 + 2 then _ else if i * 3 + 2 = k * 3 + 1 then _ else if i * 3 + 2 = k * 3 then _ else f (i * 3 + 2)) = _
        rw [if_neg (by omega), if_neg (by omega), if_neg (by omega), r2, if_neg e]
  · have key : ∀ (x : NP) (d : ND), NodeAt w' x d → w.heap.size < x.b1 → w.heap.size < x.b2 →
        NodeAt (((w'.setCell ⟨w.heap.size, k * 3, none⟩ (.int .i64 (G k).kind)).setCell ⟨w.heap.size, k * 3 + 1, none⟩ (.slice q.a1 (G k).nn q.c1)).setCell ⟨w.heap.size, k * 3 + 2, none⟩ (.slice q.a2 (G k).nk q.c2)) x d := fun x d hx g1 g2 =>
      (((hx.set (a := ⟨w.heap.size, k * 3, none⟩) (by show x.b1 ≠ w.heap.size; omega) (by show x.b2 ≠ w.heap.size; omega) _).set (a := ⟨w.heap.size, k * 3 + 1, none⟩) (by show x.b1 ≠ w.heap.size; omega) (by show x.b2 ≠ w.heap.size; omega) _).set
        (a := ⟨w.heap.size, k * 3 + 2, none⟩) (by show x.b1 ≠ w.heap.size; omega) (by show x.b2 ≠ w.heap.size; omega) _)
    by_cases e : i = k
    · subst e
      simp only [if_true]
      exact ⟨key q _ hq (by omega) (by omega), by omega, by omega⟩
    · obtain ⟨n1, n2, n3⟩ := h.node i (by omega)
      simp only [if_neg e]
      exact ⟨key _ _ (n1.below hb) n2 n3, n2, n3⟩
  · have key : ∀ x, Wr w' x → w.heap.size < x → Wr (((w'.setCell ⟨w.heap.size, k * 3, none⟩ (.int .i64 (G k).kind)).setCell ⟨w.heap.size, k * 3 + 1, none⟩ (.slice q.a1 (G k).nn q.c1)).setCell ⟨w.heap.size, k * 3 + 2, none⟩ (.slice q.a2 (G k).nk q.c2)) x := fun x hx g =>
      ((hx.set (a := ⟨w.heap.size, k * 3, none⟩) (by show x ≠ w.heap.size; omega) _).set (a := ⟨w.heap.size, k * 3 + 1, none⟩) (by show x ≠ w.heap.size; omega) _).set (a := ⟨w.heap.size, k * 3 + 2, none⟩) (by show x ≠ w.heap.size; omega) _
    by_cases e : i = k
    · subst e
      simp only [if_true]
      exact ⟨key _ h3 (by omega), key _ h4 (by omega)⟩
    · obtain ⟨_, n2, n3⟩ := h.node i (by omega)
      obtain ⟨l1, l2⟩ := h.live i (by omega)
      simp only [if_neg e]
      exact ⟨key _ (l1.below hb) n2, key _ (l2.below hb) n3⟩
  · unfold SepIJ
    by_cases ei : i = k
    · by_cases ej : j = k
      · subst ei
        subst ej
        simp only [if_true]
        exact ⟨fun q => absurd rfl q, fun q => absurd rfl q, fun _ _ => h5⟩
      · subst ei
        simp only [if_true, if_neg ej]
        have l1 := (h.live j (by omega)).1.lt
        have l2 := (h.live j (by omega)).2.lt
        exact ⟨fun _ _ _ => by omega, fun _ _ _ => by omega, fun _ _ => by omega⟩
    · by_cases ej : j = k
      · subst ej
        simp only [if_true, if_neg ei]
        have l1 := (h.live i (by omega)).1.lt
        have l2 := (h.live i (by omega)).2.lt
        exact ⟨fun _ _ _ => by omega, fun _ _ _ => by omega, fun _ _ => by omega⟩
      · simp only [if_neg ei, if_neg ej]
        exact h.sep i j (by omega) (by omega)

set_option maxHeartbeats 1000000 in
theorem c13 (ao : Option Addr) (b o n c : Nat) (p : Nat → NP) (G : Nat → ND) (w : World) (h1 : NodesAt w ao b o n p G) (hn : n ≤ 1048576) (hG : ∀ i, i < n → (G i).nn ≤ 1048576 ∧ (G i).nk ≤ 1048576) :
    Calls Tryz.prog 31 #[.slice ao n c] w fun e w' => e = .returned (.slice (some ⟨w.heap.size, 0, none⟩) n n) ∧ (∃ p', NodesAt w' (some ⟨w.heap.size, 0, none⟩) w.heap.size 0 n p' G ∧ (∀ i, i < n → w.heap.size < (p' i).b1 ∧ w.heap.size < (p' i).b2) ∧ OwnG w' n w.heap.size p' G) ∧ Below w.heap.size w w' ∧ w.heap.size < w'.heap.size := by
  have hmk := make3 n hn
  have HB : Hid (∀ w', Below w.heap.size w w' → NodesAt w' ao b o n p G) := fun w' hb => h1.below hb
  have A1 := h1.at_
  have HG : Hid (∀ i, i < n → (G i).nn ≤ 1048576 ∧ (G i).nk ≤ 1048576) := hG
  clear h1 hG
  go_enter Tryz.func31, Tryz.ntmps31
  go_wp2
  clear hmk
  go_loopw [4] (fun i wr => ∃ (k : Nat) (q : Nat → NP), k ≤ n ∧ i = .int .i64 k ∧ Fill3 w wr n k q G) (fun i _ => n - (intOf i).toNat)
  case atStart => exact ⟨0, p, Nat.zero_le _, rfl, fill3_start _ _ _ _⟩
  case round =>
    obtain ⟨k, q, hk, rfl, hF⟩ := hrel
    by_cases hlt : k < n
    · have e1 := A1 (by omega)
      have q1 := HB.out wr hF.below
      have g0 := q1.c0 k hlt
      have g1 := q1.c1 k hlt
      have g2 := q1.c2 k hlt
      have N1 := q1.node k hlt
      clear q1 HB
      subst e1
      go_wp2_with fail
      refine (c23 (p k) (G k) _ N1 (HG.out k hlt).1 (HG.out k hlt).2).mono ?_
      rintro e w' ⟨p', rfl, hq, hb', hp1, hp2, hp3, hp4, hp5⟩
      obtain ⟨f, hf, hv⟩ := hF.row
      have hr := hf.of_block (hb'.block _ hf.lt)
      have s0 := hr.cell (i := k * 3) (by omega)
      have s1 := hr.cell (i := k * 3 + 1) (by omega)
      have s2 := hr.cell (i := k * 3 + 2) (by omega)
      have t0 := hr.frozen (k * 3)
      have t1 := hr.frozen (k * 3 + 1)
      have t2 := hr.frozen (k * 3 + 2)
      have HN := fill3_step hF hb' p' hq hp1 hp2 hp3 hp4 hp5
      clear hF hr hf hv hq hb' hp1 hp2 hp3 hp4 hp5 N1
      go_wp2
      go_roundw
      case rel => exact ⟨k + 1, _, by omega, by go_num, HN⟩
      case measure => simp [intOf]; omega
    · have hkn : k = n := by omega
      subst hkn
      have HE : Hid ((∃ p', NodesAt wr (some ⟨w.heap.size, 0, none⟩) w.heap.size 0 k p' G ∧ (∀ i, i < k → w.heap.size < (p' i).b1 ∧ w.heap.size < (p' i).b2) ∧ OwnG wr k w.heap.size p' G) ∧ Below w.heap.size w wr ∧ w.heap.size < wr.heap.size) := by
        obtain ⟨f, hf, hv⟩ := hF.row
        refine ⟨⟨q, ⟨fun _ => rfl, fun i hi => ?_, fun i hi => ?_, fun i hi => ?_, fun i hi => (hF.node i hi).1, by omega⟩, fun i hi => (hF.node i hi).2, ⟨fun _ => wr_row hf, fun i hi => ⟨fun _ => ⟨(hF.live i hi).1, by have := (hF.node i hi).2.1; omega⟩, fun _ => ⟨(hF.live i hi).2, by have := (hF.node i hi).2.2; omega⟩⟩, hF.sep⟩⟩, hF.below, hf.lt⟩
        · rw [Nat.zero_add, hf.cell (by omega), (hv i hi).1]
        · rw [Nat.zero_add, hf.cell (by omega), (hv i hi).2.1]
        · rw [Nat.zero_add, hf.cell (by omega), (hv i hi).2.2]
      clear hF HB A1
      go_wp2
      go_ret
      exact ⟨rfl, HE.out⟩

theorem NodesAt.set {w : World} {ao : Option Addr} {b o n : Nat} {p : Nat → NP} {G : Nat → ND} (h : NodesAt w ao b o n p G) {a : Addr} (ha : b ≠ a.block) (hp : ∀ i, i < n → (p i).b1 ≠ a.block ∧ (p i).b2 ≠ a.block) (v : Value) :
    NodesAt (w.setCell a v) ao b o n p G :=
  ⟨h.at_, fun i hi => by rw [World.cell?_setCell_other _ _ _ _ (fun e => ha (by have := congrArg Addr.block e; first | exact this | exact this.symm))]; exact h.c0 i hi,
    fun i hi => by rw [World.cell?_setCell_other _ _ _ _ (fun e => ha (by have := congrArg Addr.block e; first | exact this | exact this.symm))]; exact h.c1 i hi,
    fun i hi => by rw [World.cell?_setCell_other _ _ _ _ (fun e => ha (by have := congrArg Addr.block e; first | exact this | exact this.symm))]; exact h.c2 i hi,
    fun i hi => (h.node i hi).set (hp i hi).1 (hp i hi).2 v, h.len⟩

theorem row1 (w : World) (a : Value) (t : TypeId) : (w.alloc (.cells #[a] t)).rowIs w.heap.size t 1 (fun _ => a) :=
  World.rowIs_alloc w #[a] t _ (fun i hi => by
    match i, hi with
    | 0, _ => rfl)

set_option maxHeartbeats 1000000 in
theorem c6 (ao : Option Addr) (b o n c : Nat) (p : Nat → NP) (G : Nat → ND) (w : World) (h1 : NodesAt w ao b o n p G) (hn : n ≤ 1048576) (hG : ∀ i, i < n → (G i).nn ≤ 1048576 ∧ (G i).nk ≤ 1048576) :
    Calls Tryz.prog 9 #[.agg #[.slice ao n c]] w fun e w' => ∃ b' p', e = .returned (.agg #[.slice (some ⟨b', 0, none⟩) n n]) ∧ NodesAt w' (some ⟨b', 0, none⟩) b' 0 n p' G ∧ OwnG w' n b' p' G ∧ FreshG w.heap.size n 0 b' 0 p' G ∧ Below w.heap.size w w' := by
  have HB : Hid (∀ w', Below w.heap.size w w' → NodesAt w' ao b o n p G) := fun w' hb => h1.below hb
  clear h1
  go_enter Tryz.func9, Tryz.ntmps9
  go_wp2_with fail
  refine (c13 ao b o n c p G _ (by exact HB.out _ (bel3 _ _ _ _)) hn hG).mono ?_
  rintro e w1 ⟨rfl, ⟨p', hN, hp, hO⟩, hb1, hz1⟩
  have B1 := (bel3 w _ _ _).trans (hb1.mono (by simp; omega))
  have r1 := (row1 (w.alloc (.cells #[.slice ao n c] 24)) (.slice none 0 0) 29)
  have r2 := (row1 ((w.alloc (.cells #[.slice ao n c] 24)).alloc (.cells #[.slice none 0 0] 29)) (.slice none 0 0) 29)
  have s1 := ((r1.alloc (.cells #[.slice none 0 0] 29))).of_block (hb1.block _ (by simp))
  have s2 := r2.of_block (hb1.block _ (by simp))
  simp only [World.size_alloc] at s1 s2 hN hp hz1 hO
  have k0 := s1.cell (i := 0) (by omega)
  have k1 := s1.frozen 0
  have k2 := s2.cell (i := 0) (by omega)
  have k3 := s2.frozen 0
  clear hb1 s1 s2 r1 r2 HB
  go_wp2_with fail
  have e1 := (hN.set (a := ⟨w.heap.size + 1 + 1, 0, none⟩) (by show w.heap.size + 1 + 1 + 1 ≠ w.heap.size + 1 + 1; omega) (fun i hi => by have := hp i hi; exact ⟨by show (p' i).b1 ≠ w.heap.size + 1 + 1; omega, by show (p' i).b2 ≠ w.heap.size + 1 + 1; omega⟩)
    (.slice (some ⟨w.heap.size + 1 + 1 + 1, 0, none⟩) n n)).set (a := ⟨w.heap.size + 1, 0, none⟩) (by show w.heap.size + 1 + 1 + 1 ≠ w.heap.size + 1; omega) (fun i hi => by have := hp i hi; exact ⟨by show (p' i).b1 ≠ w.heap.size + 1; omega, by show (p' i).b2 ≠ w.heap.size + 1; omega⟩)
    (.slice (some ⟨w.heap.size + 1 + 1 + 1, 0, none⟩) n n)
  have e3 : OwnG ((w1.setCell ⟨w.heap.size + 1 + 1, 0, none⟩ (.slice (some ⟨w.heap.size + 1 + 1 + 1, 0, none⟩) n n)).setCell ⟨w.heap.size + 1, 0, none⟩ (.slice (some ⟨w.heap.size + 1 + 1 + 1, 0, none⟩) n n)) n (w.heap.size + 1 + 1 + 1) p' G := by
    have key : ∀ j, w.heap.size + 1 + 1 + 1 ≤ j → ((w1.setCell ⟨w.heap.size + 1 + 1, 0, none⟩ (.slice (some ⟨w.heap.size + 1 + 1 + 1, 0, none⟩) n n)).setCell ⟨w.heap.size + 1, 0, none⟩ (.slice (some ⟨w.heap.size + 1 + 1 + 1, 0, none⟩) n n)).heap[j]? = w1.heap[j]? := fun j hj =>
      (Below.heap_setCell _ _ _ _ (by show j ≠ w.heap.size + 1; omega)).trans (Below.heap_setCell _ _ _ _ (by show j ≠ w.heap.size + 1 + 1; omega))
    exact hO.of (fun _ => key _ (Nat.le_refl _)) (fun i hi => ⟨fun _ => key _ (by have := (hp i hi).1; omega), fun _ => key _ (by have := (hp i hi).2; omega)⟩)
  have e4 : FreshG w.heap.size n 0 (w.heap.size + 1 + 1 + 1) 0 p' G := ⟨by omega, fun i hi => ⟨fun _ => by have := (hp i hi).1; omega, fun _ => by have := (hp i hi).2; omega⟩, fun z => absurd z (Nat.lt_irrefl _)⟩
  have hB := (B1.setCell (p := ⟨w.heap.size + 1 + 1, 0, none⟩) (by show w.heap.size ≤ w.heap.size + 1 + 1; omega) (.slice (some ⟨w.heap.size + 1 + 1 + 1, 0, none⟩) n n)).setCell (p := ⟨w.heap.size + 1, 0, none⟩) (by show w.heap.size ≤ w.heap.size + 1; omega) (.slice (some ⟨w.heap.size + 1 + 1 + 1, 0, none⟩) n n)
  exact bodyPost_ret (v := .agg #[.slice (some ⟨w.heap.size + 1 + 1 + 1, 0, none⟩) n n]) (by simp [results, Tryz.results9, go_sem, k0]) rfl ⟨w.heap.size + 1 + 1 + 1, p', rfl, e1, e3, e4, hB⟩

end Go.Proofs.YtpbpbppimkeodaaGreatDoor

