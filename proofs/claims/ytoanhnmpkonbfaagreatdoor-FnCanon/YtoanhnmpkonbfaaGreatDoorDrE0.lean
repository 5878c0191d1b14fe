/-
  A node of the drawn graph is broken: told without a program; lists that are typed out.
-/
import Derived.Test.YtoanhnmpkonbfaaGreatDoorMF
import Derived.Deep.Upon
namespace Go.Proofs.YtoanhnmpkonbfaaGreatDoor
open Go.RowKit Go.Maps

/-- The first k of some nodes. -/
def upN (f : Nat → ND) (k : Nat) : List ND := (List.range k).map f
theorem upN_len (f : Nat → ND) (k : Nat) : (upN f k).length = k := by simp [upN]
theorem upN_succ (f : Nat → ND) (k : Nat) : upN f (k + 1) = upN f k ++ [f k] := by simp [upN, List.range_succ]
theorem gd_upN (f : Nat → ND) {k i : Nat} (h : i < k) : gd (upN f k) i = f i := by simp [gd, upN, List.getD, h]

abbrev sA : ByteArray := ⟨#[97]⟩
abbrev sB : ByteArray := ⟨#[98]⟩
abbrev sIf : ByteArray := ⟨#[105, 102]⟩

/-- A broken node. -/
def spoilD (N a : Nat) (x : ND) : ND :=
  if a = 0 then ⟨5, x.nn, x.nm, x.nk, x.kd⟩ else if a = 1 then ⟨x.kind, x.nn, x.nm, 1 + x.nk, fun j => ((N : Int) :: upZ x.kd x.nk).getD j 0⟩ else if a = 2 then ⟨x.kind - 1, x.nn, x.nm, x.nk, x.kd⟩ else
  if a = 3 then nodeL 3 [sB, sA] [0, 0] else if a = 4 then nodeL 3 [sA, sA] [0, 0] else if a = 5 then nodeL 3 [sIf] [0] else nodeL 4 [] [0, -1]

def spoilF (C : Nat → Nat) (L q : Nat) (G : List ND) (i : Nat) : ND := if i = tk C L (q + 1) G.length then spoilD G.length (tk C L q 7) (gd G i) else gd G i
def spoilL (C : Nat → Nat) (L q : Nat) (G : List ND) : List ND := upN (spoilF C L q G) G.length

theorem wpList_append_zero {P : Program} (w : World) {ops : Array Oper} {rest : List Oper} {o : Oper} {a : Act} {Q : Exit → Act → World → Prop} (hgd : o.guard = none) (s x : Operand) (t : TypeId)
    (ho : o.op = .call { callee := .builtin .append, args := #[s, x], argTypes := #[t, t] }) {e : TypeId} (i : TypeInfo) (ht : P.underlying t = some (.slice e)) (hi : P.info? e = some i)
    (base : Option Addr) (sl sc : Nat) (hle : sl ≤ sc) (xv : Value) (hsv : a.eval s = .slice base sl sc) (hx : a.eval x = xv) (hs : Src P i.size t xv 0 [] w)
    (hK : wpList P ops Q rest (a.put o.dst (.slice base sl sc)) w) : wpList P ops Q (o :: rest) a w := by
  refine wpList_plain hgd fun K hK' => ?_
  have hrun := run_append_nothing (P := P) w t t o.type e i ht hi base sl sc hle xv hs
  unfold Oper.wp
  simp [execOp, ho, resolve, invoke, builtin, hsv, hx, hrun, Result.andThen]
  exact hK' _ _ hK

theorem src_zero {P : Program} {size : Nat} {tx e' : TypeId} {w : World} (hk : P.underlying tx = some (.slice e')) (ao : Option Addr) (c : Nat) : Src P size tx (.slice ao 0 c) 0 [] w := by
  cases ao with
  | none => exact Src.ofNil w hk c
  | some a => exact Src.ofSlice w hk a 0 c [] (by simp) (fun j u h => by simp at h) (fun u h => by cases h)

theorem two_strs (w : World) (a b : ByteArray) (ha : a.size ≤ 12) (hb : b.size ≤ 12) : StrsAt (w.alloc (.cells #[.string a, .string b] 9)) (some ⟨w.heap.size, 0, none⟩) w.heap.size 0 2 (fun i => [a, b].getD i ByteArray.empty) := by
  have R := row2 w (.string a) (.string b) 9
  refine ⟨fun _ => rfl, fun j hj => ?_, fun j hj => ?_, by omega⟩
  · rw [Nat.zero_add]
    refine (R.cell (i := j) hj).trans ?_
    match j, hj with
    | 0, _ => rfl
    | 1, _ => rfl
  · match j, hj with
    | 0, _ => show a.size ≤ _; omega
    | 1, _ => show b.size ≤ _; omega
theorem one_strs (w : World) (a : ByteArray) (ha : a.size ≤ 12) : StrsAt (w.alloc (.cells #[.string a] 9)) (some ⟨w.heap.size, 0, none⟩) w.heap.size 0 1 (fun i => [a].getD i ByteArray.empty) := by
  have R := row1 w (.string a) 9
  refine ⟨fun _ => rfl, fun j hj => ?_, fun j hj => ?_, by omega⟩
  · rw [Nat.zero_add]
    refine (R.cell (i := j) hj).trans ?_
    match j, hj with
    | 0, _ => rfl
  · match j, hj with
    | 0, _ => show a.size ≤ _; omega
theorem two_ints (w : World) (a b : Int) : IntsAt (w.alloc (.cells #[.int .i64 a, .int .i64 b] 3)) (some ⟨w.heap.size, 0, none⟩) w.heap.size 0 2 (fun i => [a, b].getD i 0) := by
  have R := row2 w (.int .i64 a) (.int .i64 b) 3
  refine ⟨fun _ => rfl, fun j hj => ?_, by omega⟩
  rw [Nat.zero_add]
  refine (R.cell (i := j) hj).trans ?_
  match j, hj with
  | 0, _ => rfl
  | 1, _ => rfl
theorem one_ints (w : World) (a : Int) : IntsAt (w.alloc (.cells #[.int .i64 a] 3)) (some ⟨w.heap.size, 0, none⟩) w.heap.size 0 1 (fun i => [a].getD i 0) := by
  have R := row1 w (.int .i64 a) 3
  refine ⟨fun _ => rfl, fun j hj => ?_, by omega⟩
  rw [Nat.zero_add]
  refine (R.cell (i := j) hj).trans ?_
  match j, hj with
  | 0, _ => rfl

/-- A box of three is written anew. -/
theorem set3 {w : World} {B : Nat} {v0 v1 v2 : Value} (X : Nat) (hX : X ≠ B) : ((((w.setCell ⟨B, 0, none⟩ v0).setCell ⟨B, 1, none⟩ v1).setCell ⟨B, 2, none⟩ v2)).heap[X]? = w.heap[X]? := by
  rw [Below.heap_setCell _ _ _ _ (by exact hX), Below.heap_setCell _ _ _ _ (by exact hX), Below.heap_setCell _ _ _ _ (by exact hX)]
theorem bel_set3 {n B : Nat} {w w1 : World} (h : Below n w w1) (hB : n ≤ B) (v0 v1 v2 : Value) : Below n w ((((w1.setCell ⟨B, 0, none⟩ v0).setCell ⟨B, 1, none⟩ v1).setCell ⟨B, 2, none⟩ v2)) :=
  ((h.setCell hB _).setCell hB _).setCell hB _

def GraphPost1 (w : World) (N : Nat) (G : List ND) (e : Ending) (w' : World) : Prop :=
  ∃ (oa : Option Addr) (cap b : Nat) (q : Nat → NP), e = .returned (.agg #[.slice oa N cap]) ∧ NodesAt w' oa b 0 N q (gd G) ∧ Below w.heap.size w w'

end Go.Proofs.YtoanhnmpkonbfaaGreatDoor
