/-
  The edges are sorted by their place: slices.SortFunc with the closure of edgesOf.
-/
import Derived.Shelf.SlSortCmp.WholeK
import Derived.Shelf.SlSortCmp.NoneTotal
import Derived.Ground.SlsfProg
import Derived.Test.YtpbpbppimkeodaaGreatDoorShelf
import Derived.Test.YtpbpbppimkeodaaGreatDoorSplitBy
namespace Go.Proofs.YtpbpbppimkeodaaGreatDoor
open Go.Shelf Go.RowKit Go.Lib Go.Sort

/-- An edge's two cells. -/
def encE (x : Nat × Nat) : List Value := [.int .i64 (x.1 : Int), .int .i64 (x.2 : Int)]
def cfE (x y : Nat × Nat) : Int := Lib.compareInt (x.1 : Int) (y.1 : Int)

theorem ltE (x y : Nat × Nat) : ltOf cfE x y = decide (x.1 < y.1) := by
  unfold ltOf cfE Lib.compareInt
  by_cases h1 : x.1 < y.1
  · simp [h1]
  · by_cases h2 : y.1 < x.1 <;> simp [h1, h2]

theorem swoE : SWO (ltOf cfE) where
  irrefl x := by rw [ltE]; simp
  trans x y z h1 h2 := by rw [ltE] at *; simp at *; omega
  ntrans x y z h1 h2 := by rw [ltE] at *; simp at *; omega

set_option maxHeartbeats 1000000 in
theorem c100 (x y : Nat × Nat) (W : World) : Calls Tryz.prog 107 #[.agg #[.int .i64 (x.1 : Int), .int .i64 (x.2 : Int)], .agg #[.int .i64 (y.1 : Int), .int .i64 (y.2 : Int)]] W fun e w' => e = .returned (.int .i64 (cfE x y)) ∧ ∃ q os', w' = grow (W.drewN q) os' := by
  unfold cfE
  have hcon := fun W' => Tryz.cmp_Compare_int (x.1 : Int) (y.1 : Int) W'
  generalize Lib.compareInt (x.1 : Int) (y.1 : Int) = r at hcon ⊢
  go_enter Tryz.func107, Tryz.ntmps107
  go_wp2_with (go_at_call 108; refine (hcon _).mono ?_; rintro e w' ⟨rfl, rfl⟩)
  go_ret
  exact ⟨rfl, 0, _, by rw [alloc_eq_grow, alloc_eq_grow, grow_grow]; rfl⟩

theorem cmpLaysE (blk off size : Nat) (w : World) : CmpLays Tryz.prog 107 #[] encE 2 cfE blk off size w :=
  fun _ _ _ _ x y => c100 x y _

theorem sortW_old {w : World} {blk off n : Nat} {d : Array (Nat × Nat)} {os : Array Obj} {k : Nat} (hk : k < w.heap.size) (hne : k ≠ blk) : (sortWorldK encE 2 w blk off n d os).heap[k]? = w.heap[k]? := by
  unfold sortWorldK
  rw [heap_grow_old _ _ (by unfold putRowK; rw [size_putRow]; exact hk)]
  unfold putRowK putRow mapBlock
  simp [Array.getElem?_modify, Ne.symm hne]

/-- The row is sorted: the same edges, in the order of their places; nothing else has turned. -/
structure Sorted (w w' : World) (blk : Nat) (d d' : Array (Nat × Nat)) : Prop where
  size : d'.size = d.size
  perm : d'.toList.Perm d.toList
  sorted : ∀ i j, i < j → j < d.size → (d'[i]!).1 ≤ (d'[j]!).1
  c0 : ∀ i, i < d.size → w'.cell? ⟨blk, i * 2, none⟩ = some (.int .i64 ((d'[i]!).1 : Int))
  c1 : ∀ i, i < d.size → w'.cell? ⟨blk, i * 2 + 1, none⟩ = some (.int .i64 ((d'[i]!).2 : Int))
  old : ∀ k, k < w.heap.size → k ≠ blk → w'.heap[k]? = w.heap[k]?
  more : w.heap.size ≤ w'.heap.size
  os : w'.os = w.os
  tape : w'.tape = w.tape
  output : w'.output = w.output

theorem c99s (blk cap : Nat) (d : Array (Nat × Nat)) (w : World) (hH : HoldsK encE 2 w blk 0 d) (hblk : blk < w.heap.size) (hsz : d.size < 4611686018427387904) :
    Calls Tryz.prog 106 #[.slice (some ⟨blk, 0, none⟩) d.size cap, .func (.func 107) #[] #[]] w fun e w' => e = .returned (.tuple #[]) ∧ ∃ d', Sorted w w' blk d d' := by
  have eg : ∀ args w, (callFunc 107 args).run Tryz.prog w = .ok (.enter 107 args) w := enters_of Tryz.func107 (by kernel_rfl) rfl
  have hcon := AnyQ.slices_SortFunc Tryz.sortEdge 2 Tryz.isAgg144 Tryz.sizeOf144 encE (fun _ => rfl) (fun x v hv => by simp [encE] at hv; rcases hv with rfl | rfl <;> rfl) cfE swoE 107 #[] blk 0 cap d w eg (cmpLaysE blk 0 d.size w) hH hblk hsz
  change Calls Tryz.prog 106 _ _ _ at hcon
  refine hcon.mono ?_
  rintro e w' ⟨rfl, d', n, os, hp, hs, rfl⟩
  obtain ⟨p1, _, p3⟩ := hp
  have hK : HoldsK encE 2 (sortWorldK encE 2 w blk 0 n d' os) blk 0 d' := by
    unfold sortWorldK
    exact holdsK_grow encE 2 _ os blk 0 d' (by unfold putRowK; rw [size_putRow]; exact hblk) (holdsK_putRowK encE 2 (Sort.ahead w n) blk 0 d d' (holdsK_ahead encE 2 w n blk 0 d hH) p1)
  refine ⟨rfl, d', p1, ?_, fun i j h1 h2 => ?_, fun i hi => ?_, fun i hi => ?_, fun k hk hne => sortW_old hk hne, ?_, rfl, rfl, rfl⟩
  · have e1 : d'.extract 0 d.size = d' := by rw [← p1]; simp
    have e2 : d.extract 0 d.size = d := by simp
    rw [e1, e2] at p3
    exact p3
  · have := hs i j (Nat.zero_le _) h1 h2
    rw [ltE] at this
    simp at this
    exact this
  · have := (hK.cell (i := i) (c := 0) (by omega) (by omega)).1
    simpa [encE] using this
  · have := (hK.cell (i := i) (c := 1) (by omega) (by omega)).1
    simpa [encE] using this
  · unfold sortWorldK
    rw [size_grow]
    unfold putRowK
    rw [size_putRow]
    exact Nat.le_add_right _ _

theorem c99n (p : Option Addr) (cap : Nat) (w : World) : Calls Tryz.prog 106 #[.slice p 0 cap, .func (.func 107) #[] #[]] w fun e w' => e = .returned (.tuple #[]) ∧ w' = w := by
  have hcon := AnyF.slices_SortFunc_none Tryz.sortEdge p cap (.func (.func 107) #[] #[]) w
  change Calls Tryz.prog 106 _ _ _ at hcon
  exact hcon

end Go.Proofs.YtpbpbppimkeodaaGreatDoor
