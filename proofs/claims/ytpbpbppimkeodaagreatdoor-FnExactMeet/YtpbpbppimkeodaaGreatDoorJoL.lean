/-
  What is known so far, of questions: a map from questions to their numbers, and the questions in their order.
-/
import Derived.Test.YtpbpbppimkeodaaGreatDoorJoK
namespace Go.Proofs.YtpbpbppimkeodaaGreatDoor
open Go.RowKit Go.Maps

/-- A question that is come to: known, or the next. -/
def addM (ord : List Qn) (q : Qn) : List Qn := if ord.contains q then ord else ord ++ [q]
/-- The cells of the questions. -/
def qcells (ord : List Qn) : List Value := ord.flatMap fun q => [.int .i64 (q.a : Int), .int .i64 (q.b : Int), .bool q.up]
/-- A question whose numbers are small. -/
def SmQ (q : Qn) : Prop := q.a < 4611686018427387904 ∧ q.b < 4611686018427387904

structure KnQ (w : World) (kb mb : Nat) (ov : Value) (D : DataW Unit) (ord : List Qn) (keep : Nat → Prop) : Prop where
  row : w.rowIs kb 154 2 (v2 (.map (some mb)) ov)
  mlt : mb < kb
  map : w.ownsMap Tryz.prog 124 (plainElem Tryz.prog 3) mb ord.length D
  has : ∀ q, SmQ q → Maps.has D (kq q) = ord.contains q
  val : ∀ q, SmQ q → q ∈ ord → D.atKey (kq q) (.lit (.int .i64 0)) = .lit (.int .i64 (ord.idxOf q : Int))
  own : w.ownsRow (kb + 1) 124 3 ov ord.length (qcells ord)
  far : ∀ k, keep k → k < w.heap.size ∧ k ≠ kb ∧ k ≠ mb ∧ some k ≠ ov.ownBlock

set_option maxHeartbeats 1000000 in
theorem kq_new (w : World) (keep : Nat → Prop) (hk : ∀ k, keep k → k < w.heap.size) :
    Calls Tryz.prog 109 #[] w fun e w' => e = .returned (.pointer (some ⟨w.heap.size + 1, 0, none⟩)) ∧ KnQ w' (w.heap.size + 1) w.heap.size (.slice none 0 0) (.map []) [] keep ∧ Kept keep w w' := by
  have hmm := @run_makeMap Tryz.prog
  go_enter Tryz.func109, Tryz.ntmps109
  go_wp2
  go_ret
  have R := row2 (w.alloc (.map #[] 0)) (.map (some w.heap.size)) (.slice none 0 0) 154
  simp only [World.size_alloc] at R
  refine ⟨rfl, ⟨R, by omega, (World.ownsMap_made w Tryz.prog 124 (plainElem Tryz.prog 3)).alloc _, fun q _ => rfl, fun q _ h => by simp at h, World.ownsRow_nil _ _ _ _, fun k h => ?_⟩, ?_⟩
  · have := hk k h
    exact ⟨by simp; omega, by omega, by omega, by simp [Value.ownBlock]⟩
  · have := bel2 w (.map #[] 0) (.cells #[.map (some w.heap.size), .slice none 0 0] 154)
    exact ⟨this.os, this.tape, this.output, this.size, fun k h => this.block k (hk k h)⟩

theorem look_q {w : World} {mb n : Nat} {D : DataW Unit} {q : Qn} (h : w.ownsMap Tryz.prog 124 (plainElem Tryz.prog 3) mb n D) (hq : SmQ q) :
    ∃ v : Int, (∀ m, (Instr.lookup 151 (.map (some mb)) (.agg #[.int .i64 (q.a : Int), .int .i64 (q.b : Int), .bool q.up]) true).run Tryz.prog (w.drewN m) = .ok (.tuple #[.int .i64 v, .bool (Maps.has D (kq q))]) (w.drewN m)) ∧ D.atKey (kq q) (.lit (.int .i64 0)) = .lit (.int .i64 v) := by
  have hz : plainElem (H := Unit) Tryz.prog 3 (.int .i64 0) = some (.lit (.int .i64 0), []) := plainElem_int Tryz.underlying3 (by decide)
  have each : ∀ m, ∃ v : Int, (Instr.lookup 151 (.map (some mb)) (.agg #[.int .i64 (q.a : Int), .int .i64 (q.b : Int), .bool q.up]) true).run Tryz.prog (w.drewN m) = .ok (.tuple #[.int .i64 v, .bool (Maps.has D (kq q))]) (w.drewN m) ∧ D.atKey (kq q) (.lit (.int .i64 0)) = .lit (.int .i64 v) := fun m => by
    have h' : (w.drewN m).ownsMap Tryz.prog 124 (plainElem Tryz.prog 3) mb n D := h
    obtain ⟨v, ps, hrun, hR⟩ := h'.look_ok Tryz.lawM Tryz.underlying151 (Tryz.zero3 _) hz (key_q hq.1 hq.2)
    obtain ⟨x, rfl, hx, _⟩ := plainElem_int_inv Tryz.underlying3 hR
    simp only [Prod.mk.injEq] at hx
    exact ⟨x, hrun, hx.1⟩
  obtain ⟨v, _, hv⟩ := each 0
  refine ⟨v, fun m => ?_, hv⟩
  obtain ⟨v', hrun, hv'⟩ := each m
  rw [hv] at hv'
  simp only [DataW.lit.injEq, Lit.int.injEq, true_and] at hv'
  rw [hv']; exact hrun

theorem qcells_snoc (ord : List Qn) (q : Qn) : qcells (ord ++ [q]) = qcells ord ++ [.int .i64 (q.a : Int), .int .i64 (q.b : Int), .bool q.up] := by simp [qcells]

end Go.Proofs.YtpbpbppimkeodaaGreatDoor
