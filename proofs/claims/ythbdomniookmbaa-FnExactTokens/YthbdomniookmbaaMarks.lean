/-
  The law's own helpers on tokens.
-/
import Derived.Test.YthbdomniookmbaaMark
import Derived.Deep.LoopGhost
namespace Go.Proofs.Ythbdomniookmbaa
open Go.RowKit

/-- A slice of tokens: a row, and what its first n tokens are. -/
structure TksAt (w : World) (ao : Option Addr) (b n : Nat) (T : Nat → TK) : Prop where
  at_ : 0 < n → ao = some ⟨b, 0, none⟩
  row : 0 < n → ∃ (N : Nat) (f : Nat → Value), w.rowIs b 42 N f ∧ n * 3 ≤ N ∧ ∀ i, i < n → f (i * 3) = .int .i64 (T i).cls ∧ f (i * 3 + 1) = .string (T i).txt ∧ f (i * 3 + 2) = .int .i64 ((T i).loc : Int)

theorem TksAt.cells {w : World} {ao : Option Addr} {b n : Nat} {T : Nat → TK} (h : TksAt w ao b n T) {i : Nat} (hi : i < n) :
    w.cell? ⟨b, i * 3, none⟩ = some (.int .i64 (T i).cls) ∧ w.cell? ⟨b, i * 3 + 1, none⟩ = some (.string (T i).txt) ∧ w.cell? ⟨b, i * 3 + 2, none⟩ = some (.int .i64 ((T i).loc : Int)) := by
  obtain ⟨N, f, hr, hN, hf⟩ := h.row (by omega)
  obtain ⟨e0, e1, e2⟩ := hf i hi
  exact ⟨by rw [hr.cell (by omega), e0], by rw [hr.cell (by omega), e1], by rw [hr.cell (by omega), e2]⟩

theorem TksAt.frozen {w : World} {ao : Option Addr} {b n : Nat} {T : Nat → TK} (h : TksAt w ao b n T) (hn : 0 < n) (j : Nat) : w.frozen? ⟨b, j, none⟩ = false := by
  obtain ⟨N, f, hr, hN, hf⟩ := h.row hn
  exact hr.frozen j

theorem TksAt.later {w w' : World} {ao : Option Addr} {b n : Nat} {T : Nat → TK} (h : TksAt w ao b n T) (hb : 0 < n → w'.heap[b]? = w.heap[b]?) : TksAt w' ao b n T :=
  ⟨h.at_, fun hn => by
    obtain ⟨N, f, hr, hN, hf⟩ := h.row hn
    exact ⟨N, f, hr.of_block (hb hn), hN, hf⟩⟩

theorem TksAt.lt {w : World} {ao : Option Addr} {b n : Nat} {T : Nat → TK} (h : TksAt w ao b n T) (hn : 0 < n) : b < w.heap.size := by
  obtain ⟨N, f, hr, hN, hf⟩ := h.row hn
  exact hr.lt

theorem TksAt.below {w w' : World} {ao : Option Addr} {b n : Nat} {T : Nat → TK} (h : TksAt w ao b n T) (hb : Below w.heap.size w w') : TksAt w' ao b n T :=
  h.later (fun hn => hb.block b (h.lt hn))

/-- The token at a place. -/
def tkAt (l : List TK) (i : Nat) : TK := l.getD i ⟨0, ByteArray.empty, 0⟩

theorem tcells_at (l : List TK) : ∀ i, i < l.length → (tcells l)[i * 3]? = some (.int .i64 (tkAt l i).cls) ∧ (tcells l)[i * 3 + 1]? = some (.string (tkAt l i).txt) ∧ (tcells l)[i * 3 + 2]? = some (.int .i64 ((tkAt l i).loc : Int)) := by
  induction l with
  | nil => intro i hi; simp at hi
  | cons t l ih =>
    intro i hi
    cases i with
    | zero => exact ⟨rfl, rfl, rfl⟩
    | succ i =>
      obtain ⟨h0, h1, h2⟩ := ih i (by simpa using hi)
      have e : ∀ j, (tcells (t :: l))[(i + 1) * 3 + j]? = (tcells l)[i * 3 + j]? := fun j => by
        have : (i + 1) * 3 + j = (i * 3 + j) + 3 := by omega
        rw [this]; rfl
      have e0 := e 0
      simp only [Nat.add_zero] at e0
      exact ⟨e0.trans h0, (e 1).trans h1, (e 2).trans h2⟩

theorem own_at {w wr : World} {oa : Option Addr} {cap : Nat} {l : List TK} (h : Own w wr (.slice oa l.length cap) l) : ∃ b, TksAt wr oa b l.length (tkAt l) ∧ w.heap.size ≤ b := by
  obtain ⟨h1, h2⟩ := h.own
  rcases h2 with ⟨hv, hn⟩ | ⟨g, cap', cur, hv, hb, hh, hc, hm, hs, ht⟩
  · exact ⟨w.heap.size, ⟨fun q => absurd q (by omega), fun q => absurd q (by omega)⟩, Nat.le_refl _⟩
  · simp only [Value.slice.injEq] at hv
    refine ⟨g, ⟨fun _ => hv.1, fun _ => ⟨cur.size, fun i => cur[i]!, ⟨cur, hh, rfl, fun i hi => by simp [hi]⟩, by rw [hs]; exact Nat.mul_le_mul_right _ hc, fun i hi => ?_⟩⟩, hb⟩
    obtain ⟨e0, e1, e2⟩ := tcells_at l i hi
    rw [← ht] at e0 e1 e2
    have key : ∀ j u, j < l.length * 3 → (List.take (l.length * 3) cur.toList)[j]? = some u → cur[j]! = u := fun j u hj hu => by
      rw [List.getElem?_take, if_pos hj] at hu
      rw [Array.getElem?_toList] at hu
      rw [getElem!_def, hu]
    exact ⟨key _ _ (by omega) e0, key _ _ (by omega) e1, key _ _ (by omega) e2⟩

/-- A token as a value. -/
abbrev tkv (t : TK) : Value := .agg #[.int .i64 t.cls, .string t.txt, .int .i64 (t.loc : Int)]

set_option maxHeartbeats 1000000 in
theorem c22 (t : TK) (w : World) :
    Calls Try.prog 22 #[tkv t, tkv t] w fun e w' => e = .returned (.bool true) ∧ Below w.heap.size w w' := by
  unfold tkv
  go_enter Try.func22, Try.ntmps22
  go_wp2
  go_ret
  exact ⟨rfl, bel2 _ _ _⟩

set_option maxHeartbeats 2000000 in
theorem c7 (ao ao' : Option Addr) (b b' n c c' : Nat) (T : Nat → TK) (w : World) (hn : n ≤ 1000) (h1 : TksAt w ao b n T) (h2 : TksAt w ao' b' n T) :
    Calls Try.prog 7 #[.slice ao n c, .slice ao' n c'] w fun e w' => e = .returned (.bool true) ∧ Below w.heap.size w w' := by
  have HB : Hid (∀ w', Below w.heap.size w w' → TksAt w' ao b n T ∧ TksAt w' ao' b' n T) := fun w' hb => ⟨h1.below hb, h2.below hb⟩
  have A1 := h1.at_
  have A2 := h2.at_
  clear h1 h2
  go_enter Try.func7, Try.ntmps7
  go_wp2
  go_loopw [5] (fun i wr => ∃ k : Nat, k ≤ n ∧ i = .int .i64 k ∧ Below w.heap.size w wr) (fun i _ => n - (intOf i).toNat)
  case atStart => exact ⟨0, Nat.zero_le _, rfl, Below.refl _ _⟩
  case round =>
    obtain ⟨k, hk, rfl, hb⟩ := hrel
    by_cases hlt : k < n
    · have e1 := A1 (by omega)
      have e2 := A2 (by omega)
      obtain ⟨q1, q2⟩ := HB.out wr hb
      obtain ⟨g0, g1, g2⟩ := q1.cells hlt
      obtain ⟨f0, f1, f2⟩ := q2.cells hlt
      clear q1 q2 HB
      subst e1 e2
      go_wp2
      go_region_with (go_at_call 22; refine (c22 (T k) _).mono ?_; rintro e w' ⟨rfl, hb'⟩)
      all_goals
        go_wp2
        go_roundw
        case rel => exact ⟨k + 1, by omega, by go_num, hb.trans (Below.trans (Below.refl _ _).drew (hb'.mono hb.size))⟩
        case measure => simp [intOf]; omega
    · go_wp2
      go_ret
      exact ⟨rfl, hb⟩


theorem c23' (z : Int) (k : Nat) (w : World) (hz : z = (k : Int)) (hk : 0 < k) (hk2 : k ≤ 1000000) :
    Calls Try.prog 23 #[.int .i64 z] w fun e w' => e = .returned (.string (mt k)) ∧ Below w.heap.size w w' := by
  subst hz; exact c23 k w hk hk2

/-- The marks from a number on. -/
def mk (i : Nat) : TK := ⟨((1 + 3 * i : Nat) : Int), mt (1 + 3 * i + 1), 1 + 3 * i + 2⟩

/-- All blocks but one are as they were. -/
structure But (b : Nat) (w w' : World) : Prop where
  os : w'.os = w.os
  tape : w'.tape = w.tape
  output : w'.output = w.output
  size : w.heap.size ≤ w'.heap.size
  block : ∀ j, j < w.heap.size → j ≠ b → w'.heap[j]? = w.heap[j]?
theorem But.refl (b : Nat) (w : World) : But b w w := ⟨rfl, rfl, rfl, Nat.le_refl _, fun _ _ _ => rfl⟩
theorem But.below {b : Nat} {w w1 w2 : World} (h : But b w w1) (hb : Below w1.heap.size w1 w2) : But b w w2 :=
  ⟨hb.os.trans h.os, hb.tape.trans h.tape, hb.output.trans h.output, Nat.le_trans h.size hb.size, fun j hj hn => (hb.block j (Nat.lt_of_lt_of_le hj h.size)).trans (h.block j hj hn)⟩
theorem But.set {b : Nat} {w w1 : World} (h : But b w w1) (o : Nat) (v : Value) : But b w (w1.setCell ⟨b, o, none⟩ v) :=
  ⟨h.os, h.tape, h.output, by simpa [World.setCell] using h.size, fun j hj hn => (Below.heap_setCell _ _ _ _ (by show j ≠ b; exact hn)).trans (h.block j hj hn)⟩

/-- The row while it is being marked: the first k tokens are marks. -/
structure Mk (w wr : World) (b n k : Nat) : Prop where
  but : But b w wr
  row : 0 < n → ∃ (N : Nat) (f : Nat → Value), wr.rowIs b 42 N f ∧ n * 3 ≤ N ∧ ∀ i, i < k → f (i * 3) = .int .i64 (mk i).cls ∧ f (i * 3 + 1) = .string (mk i).txt ∧ f (i * 3 + 2) = .int .i64 ((mk i).loc : Int)

theorem mk_step {w wr w2 : World} {b n k : Nat} (h : Mk w wr b n k) (hk : k < n) {c2 : Value} (hc2 : c2 = .string (mk k).txt) (hbl : b < wr.heap.size) (hb : Below wr.heap.size (wr.setCell ⟨b, k * 3, none⟩ (.int .i64 (mk k).cls)) w2) :
    Mk w ((w2.setCell ⟨b, k * 3 + 1, none⟩ c2).setCell ⟨b, k * 3 + 2, none⟩ (.int .i64 ((mk k).loc : Int))) b n (k + 1) := by
  obtain ⟨N, f, hr, hN, hf⟩ := h.row (by omega)
  have hsz : (wr.setCell ⟨b, k * 3, none⟩ (.int .i64 (mk k).cls)).heap.size = wr.heap.size := by simp [World.setCell]
  refine ⟨((((h.but.set _ _).below (by rw [hsz]; exact hb)).set _ _).set _ _), fun _ => ⟨N, _, (((hr.set (k * 3) _).of_block (hb.block _ hbl)).set (k * 3 + 1) _).set (k * 3 + 2) _, hN, fun i hi => ?_⟩⟩
  by_cases e : i = k
  · subst e
    refine ⟨?_, ?_, ?_⟩
    · show (if i * 3 = i * 3 + 2 then _ else if i * 3 = i * 3 + 1 then _ else if i * 3 = i * 3 then _ else _) = _
      rw [if_neg (by omega), if_neg (by omega), if_pos rfl]
    · show (if i * 3 + 1 = i * 3 + 2 then _ else if i * 3 + 1 = i * 3 + 1 then _ else _) = _
      rw [if_neg (by omega), if_pos rfl, hc2]
    · show (if i * 3 + 2 = i * 3 + 2 then _ else _) = _
      rw [if_pos rfl]
  · obtain ⟨r0, r1, r2⟩ := hf i (by omega)
    refine ⟨?_, ?_, ?_⟩
    · show (if i * 3 = k * 3 + 2 then _ else if i * 3 = k * 3 + 1 then _ else if i * 3 = k * 3 then _ else f (i * 3)) = _
      rw [if_neg (by omega), if_neg (by omega), if_neg (by omega), r0]
    · show (if i * 3 + 1 = k * 3 + 2 then _ else if i * 3 + 1 = k * 3 + 1 then _ else if i * 3 + 1 = k * 3 then _ else f (i * 3 + 1)) = _
      rw [if_neg (by omega), if_neg (by omega), if_neg (by omega), r1]
    · show (if i * 3 + 2 = k * 3 + 2 then _ else if i * 3 + 2 = k * 3 + 1 then _ else if i * 3 + 2 = k * 3 then _ else f (i * 3 + 2)) = _
      rw [if_neg (by omega), if_neg (by omega), if_neg (by omega), r2]

set_option maxRecDepth 100000 in
set_option maxHeartbeats 2000000 in
theorem c8 (ao : Option Addr) (b n c : Nat) (T : Nat → TK) (w : World) (hn : n ≤ 1000) (h1 : TksAt w ao b n T) :
    Calls Try.prog 8 #[.slice ao n c, .int .i64 1] w fun e w' => e = .returned (.int .i64 ((1 + 3 * n : Nat) : Int)) ∧ TksAt w' ao b n mk ∧ But b w w' := by
  have A1 := h1.at_
  have ST : Mk w w b n 0 := ⟨But.refl _ _, fun q => by
    obtain ⟨N, f, hr, hN, hf⟩ := h1.row q
    exact ⟨N, f, hr, hN, fun i hi => absurd hi (Nat.not_lt_zero _)⟩⟩
  have HA : Hid (0 < n → ao = some ⟨b, 0, none⟩) := A1
  clear h1
  go_enter Try.func8, Try.ntmps8
  go_wp2
  go_loopw [1, 5] (fun x i wr => ∃ k : Nat, k ≤ n ∧ i = .int .i64 k ∧ x = .int .i64 ((1 + 3 * k : Nat) : Int) ∧ Mk w wr b n k) (fun _ i _ => n - (intOf i).toNat)
  case atStart => exact ⟨0, Nat.zero_le _, rfl, rfl, ST⟩
  case round =>
    obtain ⟨k, hk, rfl, rfl, hM⟩ := hrel
    clear ST
    by_cases hlt : k < n
    · have e1 := A1 (by omega)
      subst e1
      obtain ⟨N, f, hr, hN, _⟩ := hM.row (by omega)
      have k0 := hr.cell (i := k * 3) (by omega)
      have f0 := hr.frozen (k * 3)
      have HR : Hid (wr.rowIs b 42 N f) := hr
      have HM : Hid (Mk w wr b n k) := hM
      have hbl := hr.lt
      obtain ⟨x, hx⟩ : ∃ x : Nat, x = 1 + 3 * k := ⟨_, rfl⟩
      have HX : Hid (x = 1 + 3 * k) := hx
      have hx1 : 1 ≤ x := by omega
      have hx2 : x ≤ 3001 := by omega
      rw [← hx]
      clear hr hM hx
      go_wp2_with fail
      refine (c23' _ (x + 1) _ (by omega) (by omega) (by omega)).mono ?_
      rintro e w2 ⟨rfl, hb2⟩
      have hsz : (wr.setCell ⟨b, k * 3, none⟩ (.int .i64 (x : Int))).heap.size = wr.heap.size := by simp [World.setCell]
      have r2 := (HR.out.set (k * 3) (.int .i64 (x : Int))).of_block (hb2.block _ (by rw [hsz]; exact hbl))
      have s1 := r2.cell (i := k * 3 + 1) (by omega)
      have s2 := r2.cell (i := k * 3 + 2) (by omega)
      have t1 := r2.frozen (k * 3 + 1)
      have t2 := r2.frozen (k * 3 + 2)
      rw [hsz] at hb2
      have HN : Hid (Mk w ((w2.setCell ⟨b, k * 3 + 1, none⟩ (.string (mt (x + 1)))).setCell ⟨b, k * 3 + 2, none⟩ (.int .i64 ((x : Int) + 1 + 1))) b n (k + 1)) := by
        have e0 : ((mk k).cls) = (x : Int) := by rw [HX.out]; rfl
        have e1 : ((mk k).loc : Int) = (x : Int) + 1 + 1 := by
          show (((1 + 3 * k + 2 : Nat)) : Int) = _
          rw [HX.out]; omega
        have := mk_step (c2 := .string (mt (x + 1))) HM.out hlt (by rw [HX.out]; rfl) hbl (w2 := w2) (by rw [e0]; exact hb2)
        rw [e1] at this; exact this
      clear HR HM r2 hb2 hsz k0 f0
      go_wp2
      go_roundw
      case rel => exact ⟨k + 1, by omega, by go_num, by have := HX.out; first | (congr 1; omega) | (simp; omega), HN.out⟩
      case measure => simp [intOf]; omega
    · have hkn : k = n := by omega
      subst hkn
      have FIN : Hid (TksAt wr ao b k mk ∧ But b w wr) := ⟨⟨HA.out, hM.row⟩, hM.but⟩
      clear hM
      go_wp2
      go_ret
      exact ⟨rfl, FIN.out⟩

end Go.Proofs.Ythbdomniookmbaa
