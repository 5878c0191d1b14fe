/-
  Outcomes: from the reading of the argument to the memory that the walks speak of.
-/
import Derived.Test.YtdolejkpnpchaaaDoorOutL
import Derived.Test.YtdolejkpnpchaaaDoorTabOpen
namespace Go.Proofs.YtdolejkpnpchaaaDoor
open Go.ChangeShapes Go.WideShapes Go.ChangeAt Go.RowKit Go.Deep

section
variable {P : Program} {H : Type} {enc : TypeId × Value → H} {W : World} {base : Nat} {spare : Nat → Bool} {held : Bool}

theorem o_struct3 {t : TypeId} {f0 f1 f2 : Field} {fuel : Nat} {cs : List Value} {x : DataW H × List MemPlace} (ht : P.underlying t = some (.struct #[f0, f1, f2])) (h : DataW.trod enc P W base spare held fuel t cs = some x) :
    ∃ y0 y1 y2 n, cs.length = P.cellsOf t ∧ DataW.trod enc P W base spare held n f0.type ((cs.drop f0.offset).take (P.cellsOf f0.type)) = some y0 ∧ DataW.trod enc P W base spare held n f1.type ((cs.drop f1.offset).take (P.cellsOf f1.type)) = some y1 ∧ DataW.trod enc P W base spare held n f2.type ((cs.drop f2.offset).take (P.cellsOf f2.type)) = some y2 := by
  obtain ⟨xs, n, _, rfl, hl, hlen, hf⟩ := DataW.trod_struct ht h
  match xs, hlen with
  | [y0, y1, y2], _ => exact ⟨y0, y1, y2, n, hl, by simpa using hf 0 f0 rfl, by simpa using hf 1 f1 rfl, by simpa using hf 2 f2 rfl⟩

theorem o_struct5 {t : TypeId} {f0 f1 f2 f3 f4 : Field} {fuel : Nat} {cs : List Value} {x : DataW H × List MemPlace} (ht : P.underlying t = some (.struct #[f0, f1, f2, f3, f4])) (h : DataW.trod enc P W base spare held fuel t cs = some x) :
    ∃ y0 y1 y2 y3 y4 n, cs.length = P.cellsOf t ∧ DataW.trod enc P W base spare held n f0.type ((cs.drop f0.offset).take (P.cellsOf f0.type)) = some y0 ∧ DataW.trod enc P W base spare held n f1.type ((cs.drop f1.offset).take (P.cellsOf f1.type)) = some y1 ∧ DataW.trod enc P W base spare held n f2.type ((cs.drop f2.offset).take (P.cellsOf f2.type)) = some y2 ∧ DataW.trod enc P W base spare held n f3.type ((cs.drop f3.offset).take (P.cellsOf f3.type)) = some y3 ∧ DataW.trod enc P W base spare held n f4.type ((cs.drop f4.offset).take (P.cellsOf f4.type)) = some y4 := by
  obtain ⟨xs, n, _, rfl, hl, hlen, hf⟩ := DataW.trod_struct ht h
  match xs, hlen with
  | [y0, y1, y2, y3, y4], _ => exact ⟨y0, y1, y2, y3, y4, n, hl, by simpa using hf 0 f0 rfl, by simpa using hf 1 f1 rfl, by simpa using hf 2 f2 rfl, by simpa using hf 3 f3 rfl, by simpa using hf 4 f4 rfl⟩

theorem o_struct7 {t : TypeId} {f0 f1 f2 f3 f4 f5 f6 : Field} {fuel : Nat} {cs : List Value} {x : DataW H × List MemPlace} (ht : P.underlying t = some (.struct #[f0, f1, f2, f3, f4, f5, f6])) (h : DataW.trod enc P W base spare held fuel t cs = some x) :
    ∃ y0 y1 y2 y3 y4 y5 y6 n, cs.length = P.cellsOf t ∧ DataW.trod enc P W base spare held n f0.type ((cs.drop f0.offset).take (P.cellsOf f0.type)) = some y0 ∧ DataW.trod enc P W base spare held n f1.type ((cs.drop f1.offset).take (P.cellsOf f1.type)) = some y1 ∧ DataW.trod enc P W base spare held n f2.type ((cs.drop f2.offset).take (P.cellsOf f2.type)) = some y2 ∧ DataW.trod enc P W base spare held n f3.type ((cs.drop f3.offset).take (P.cellsOf f3.type)) = some y3 ∧ DataW.trod enc P W base spare held n f4.type ((cs.drop f4.offset).take (P.cellsOf f4.type)) = some y4 ∧ DataW.trod enc P W base spare held n f5.type ((cs.drop f5.offset).take (P.cellsOf f5.type)) = some y5 ∧ DataW.trod enc P W base spare held n f6.type ((cs.drop f6.offset).take (P.cellsOf f6.type)) = some y6 := by
  obtain ⟨xs, n, _, rfl, hl, hlen, hf⟩ := DataW.trod_struct ht h
  match xs, hlen with
  | [y0, y1, y2, y3, y4, y5, y6], _ => exact ⟨y0, y1, y2, y3, y4, y5, y6, n, hl, by simpa using hf 0 f0 rfl, by simpa using hf 1 f1 rfl, by simpa using hf 2 f2 rfl, by simpa using hf 3 f3 rfl, by simpa using hf 4 f4 rfl, by simpa using hf 5 f5 rfl, by simpa using hf 6 f6 rfl⟩

end

theorem Tryd.cellsO73 : Tryd.prog.cellsOf 73 = 1 := by kernel_rfl
theorem Tryd.cellsO111 : Tryd.prog.cellsOf 111 = 2 := by kernel_rfl
theorem Tryd.cellsO75 : Tryd.prog.cellsOf 75 = 5 := by kernel_rfl
theorem Tryd.cellsO79 : Tryd.prog.cellsOf 79 = 4 := by kernel_rfl
theorem Tryd.cellsO22 : Tryd.prog.cellsOf 22 = 1 := by kernel_rfl
theorem Tryd.cellsO23 : Tryd.prog.cellsOf 23 = 1 := by kernel_rfl
theorem Tryd.cellsO28 : Tryd.prog.cellsOf 28 = 7 := by kernel_rfl

section
variable {H : Type} {enc : TypeId × Value → H} {W : World} {held : Bool}

set_option maxRecDepth 100000 in
theorem diag_open {fuel : Nat} {cs : List Value} {x : DataW H × List MemPlace} (h : DataW.trod enc Tryd.prog W 0 (fun _ => true) held fuel 111 cs = some x) :
    ∃ y : Int × Int, cs = [.int .i64 y.1, .int .i64 y.2] ∧ i64R y.1 ∧ i64R y.2 := by
  obtain ⟨y0, y1, n, _, hlen, h0, h1⟩ := trod_struct2 Tryd.underlying111 h
  rw [Tryd.cellsO111] at hlen
  match cs, hlen with
  | [v0, v1], _ =>
    simp only [Tryd.cells3, List.drop_zero, List.drop_succ_cons, List.take_succ_cons, List.take_zero] at h0 h1
    obtain ⟨s, hs, _, w0⟩ := DataW.trod_int Tryd.underlying3 h0
    obtain ⟨t, ht, _, w1⟩ := DataW.trod_int Tryd.underlying3 h1
    simp only [List.cons.injEq, and_true] at hs ht
    subst hs ht
    exact ⟨(s, t), rfl, wf_range w0, wf_range w1⟩

theorem diags_open {fuel : Nat} {cs : List Value} {x : DataW H × List MemPlace} (h : DataW.trod enc Tryd.prog W 0 (fun _ => true) held fuel 73 cs = some x) :
    ∃ ao b o n c, ∃ dg : Nat → Int × Int, cs = [.slice ao n c] ∧ (0 < n → ao = some ⟨b, o, none⟩) ∧ (∀ j, j < n → W.cell? ⟨b, o + j * 2, none⟩ = some (.int .i64 (dg j).1)) ∧ (∀ j, j < n → W.cell? ⟨b, o + j * 2 + 1, none⟩ = some (.int .i64 (dg j).2)) ∧ (∀ j, j < n → i64R (dg j).1 ∧ i64R (dg j).2) ∧ n ≤ 9223372036854775807 := by
  rcases open_slice Tryd.underlying73 h with ⟨rfl, _⟩ | ⟨a, len, cap, m, n, D, Pl, rfl, _, hl, hm, hmm, _, hx⟩
  · exact ⟨none, 0, 0, 0, 0, fun _ => (0, 0), rfl, fun h => absurd h (Nat.lt_irrefl _), fun i h => absurd h (Nat.not_lt_zero _), fun i h => absurd h (Nat.not_lt_zero _), fun i h => absurd h (Nat.not_lt_zero _), by omega⟩
  · simp only [if_true] at hmm
    subst hmm
    rw [Tryd.cellsO111] at hx
    have each : ∀ i, i < m → ∃ y : Int × Int, (W.cell? (a.add (i * 2)) = some (.int .i64 y.1) ∧ W.cell? (a.add (i * 2 + 1)) = some (.int .i64 y.2)) ∧ i64R y.1 ∧ i64R y.2 := by
      intro i hi
      obtain ⟨cs', h1, h2⟩ := hx i hi
      obtain ⟨y, rfl, hy⟩ := diag_open h2
      obtain ⟨_, _, hc⟩ := World.cells?_some h1
      have e0 := hc 0 (by omega)
      have e1 := hc 1 (by omega)
      rw [add_add] at e0 e1
      exact ⟨y, ⟨e0, e1⟩, hy⟩
    have hin : Inhabited (Int × Int) := ⟨(0, 0)⟩
    obtain ⟨y, hy⟩ := choose_lt each
    unfold maxLen at hm
    have hp : 0 < len → a = ⟨a.block, a.off, none⟩ := fun hp => by
      have := (hy 0 (by omega)).1.1
      rw [Nat.zero_mul] at this
      exact addr_plain this
    refine ⟨some a, a.block, a.off, len, m, y, rfl, fun h => congrArg some (hp h), fun i hi => addr_at (hp (by omega)) (hy i (by omega)).1.1, fun i hi => ?_, fun i hi => (hy i (by omega)).2, by omega⟩
    have := addr_at (hp (by omega)) (hy i (by omega)).1.2
    rw [Nat.add_assoc]; exact this

/-- What holds of one answer that is read. -/
structure AnsR (W : World) (p : DP) (a : AD) : Prop where
  dh : 0 < a.nd → p.a = some ⟨p.b, p.o, none⟩
  d0 : ∀ j, j < a.nd → W.cell? ⟨p.b, p.o + j * 2, none⟩ = some (.int .i64 (a.dg j).1)
  d1 : ∀ j, j < a.nd → W.cell? ⟨p.b, p.o + j * 2 + 1, none⟩ = some (.int .i64 (a.dg j).2)
  di : ∀ j, j < a.nd → i64R (a.dg j).1 ∧ i64R (a.dg j).2
  hd : a.nd ≤ 9223372036854775807
  hs : a.name.size ≤ 9223372036854775807
  ci : i64R a.call
  ri : i64R a.rev

set_option maxRecDepth 100000 in
theorem answer_open {fuel : Nat} {cs : List Value} {x : DataW H × List MemPlace} (h : DataW.trod enc Tryd.prog W 0 (fun _ => true) held fuel 75 cs = some x) :
    ∃ y : DP × AD, cs = [.int .i64 y.2.call, .string y.2.name, .int .i64 y.2.rev, .bool y.2.full, .slice y.1.a y.2.nd y.1.c] ∧ AnsR W y.1 y.2 := by
  obtain ⟨_, _, _, _, _, n, hlen, h0, h1, h2, h3, h4⟩ := o_struct5 Tryd.underlying75 h
  rw [Tryd.cellsO75] at hlen
  match cs, hlen with
  | [v0, v1, v2, v3, v4], _ =>
    simp only [Tryd.cells3, Tryd.cells4, Tryd.cells9, Tryd.cellsO73, List.drop_zero, List.drop_succ_cons, List.take_succ_cons, List.take_zero] at h0 h1 h2 h3 h4
    obtain ⟨call, e0, _, w0⟩ := DataW.trod_int Tryd.underlying3 h0
    obtain ⟨nm, e1, hv⟩ := DataW.trod_string Tryd.underlying9 h1
    obtain ⟨rv, e2, _, w2⟩ := DataW.trod_int Tryd.underlying3 h2
    obtain ⟨fl, e3, _⟩ := DataW.trod_bool Tryd.underlying4 h3
    obtain ⟨ao, b, o, nd, c, dg, e4, k1, k2, k3, k4, k5⟩ := diags_open h4
    simp only [List.cons.injEq, and_true] at e0 e1 e2 e3 e4
    subst e0 e1 e2 e3 e4
    have hvz := hv.2
    unfold maxLen at hvz
    exact ⟨(⟨ao, b, o, c⟩, ⟨call, nm, rv, fl, nd, dg⟩), rfl, ⟨k1, k2, k3, k4, k5, by show nm.size ≤ _; omega, wf_range w0, wf_range w2⟩⟩

theorem answers_open {fuel : Nat} {cs : List Value} {x : DataW H × List MemPlace} (h : DataW.trod enc Tryd.prog W 0 (fun _ => true) held fuel 22 cs = some x) :
    ∃ ao b o n c A P, cs = [.slice ao n c] ∧ AnsO W ao b o n A P ∧ ALen A n ∧ n ≤ 9223372036854775807 ∧ ∀ i, i < n → i64R (A i).call ∧ i64R (A i).rev ∧ ∀ j, j < (A i).nd → i64R ((A i).dg j).1 ∧ i64R ((A i).dg j).2 := by
  have hin : Inhabited (DP × AD) := ⟨(⟨none, 0, 0, 0⟩, ⟨0, ByteArray.empty, 0, false, 0, fun _ => (0, 0)⟩)⟩
  rcases open_slice Tryd.underlying22 h with ⟨rfl, _⟩ | ⟨a, len, cap, m, n, D, Pl, rfl, _, hl, hm, hmm, _, hx⟩
  · refine ⟨none, 0, 0, 0, 0, fun _ => hin.default.2, fun _ => hin.default.1, rfl, ⟨fun h => absurd h (Nat.lt_irrefl _), ?_, ?_, ?_, ?_, ?_, ?_, ?_, ?_⟩, ?_, by omega, ?_⟩ <;> exact fun i h => absurd h (Nat.not_lt_zero _)
  · simp only [if_true] at hmm
    subst hmm
    rw [Tryd.cellsO75] at hx
    have each : ∀ i, i < m → ∃ y : DP × AD, (W.cell? (a.add (i * 5)) = some (.int .i64 y.2.call) ∧ W.cell? (a.add (i * 5 + 1)) = some (.string y.2.name) ∧ W.cell? (a.add (i * 5 + 2)) = some (.int .i64 y.2.rev) ∧ W.cell? (a.add (i * 5 + 3)) = some (.bool y.2.full) ∧ W.cell? (a.add (i * 5 + 4)) = some (.slice y.1.a y.2.nd y.1.c)) ∧ AnsR W y.1 y.2 := by
      intro i hi
      obtain ⟨cs', h1, h2⟩ := hx i hi
      obtain ⟨y, rfl, hy⟩ := answer_open h2
      obtain ⟨_, _, hc⟩ := World.cells?_some h1
      have e0 := hc 0 (by omega)
      have e1 := hc 1 (by omega)
      have e2 := hc 2 (by omega)
      have e3 := hc 3 (by omega)
      have e4 := hc 4 (by omega)
      rw [add_add] at e0 e1 e2 e3 e4
      exact ⟨y, ⟨e0, e1, e2, e3, e4⟩, hy⟩
    obtain ⟨y, hy⟩ := choose_lt each
    unfold maxLen at hm
    have hp : 0 < len → a = ⟨a.block, a.off, none⟩ := fun hp => by
      have := (hy 0 (by omega)).1.1
      rw [Nat.zero_mul] at this
      exact addr_plain this
    refine ⟨some a, a.block, a.off, len, m, fun i => (y i).2, fun i => (y i).1, rfl, ⟨fun h => congrArg some (hp h), fun i hi => ?_, fun i hi => ?_, fun i hi => ?_, fun i hi => ?_, fun i hi => ?_, fun i hi => (hy i (by omega)).2.dh, fun i hi => (hy i (by omega)).2.d0, fun i hi => (hy i (by omega)).2.d1⟩, fun i hi => ⟨(hy i (by omega)).2.hs, (hy i (by omega)).2.hd⟩, by omega, fun i hi => ⟨(hy i (by omega)).2.ci, (hy i (by omega)).2.ri, (hy i (by omega)).2.di⟩⟩
    · exact addr_at (hp (by omega)) (hy i (by omega)).1.1
    · rw [Nat.add_assoc]; exact addr_at (hp (by omega)) (hy i (by omega)).1.2.1
    · rw [Nat.add_assoc]; exact addr_at (hp (by omega)) (hy i (by omega)).1.2.2.1
    · rw [Nat.add_assoc]; exact addr_at (hp (by omega)) (hy i (by omega)).1.2.2.2.1
    · rw [Nat.add_assoc]; exact addr_at (hp (by omega)) (hy i (by omega)).1.2.2.2.2

set_option maxRecDepth 100000 in
theorem key_open_r {fuel : Nat} {cs : List Value} {x : DataW H × List MemPlace} (h : DataW.trod enc Tryd.prog W 0 (fun _ => true) held fuel 77 cs = some x) :
    ∃ y : Int × ByteArray, cs = [.int .i64 y.1, .string y.2] ∧ y.2.size ≤ 9223372036854775807 ∧ i64R y.1 := by
  obtain ⟨y0, y1, n, _, hlen, h0, h1⟩ := trod_struct2 Tryd.underlying77 h
  rw [Tryd.cells77] at hlen
  match cs, hlen with
  | [v0, v1], _ =>
    simp only [Tryd.cells3, Tryd.cells9, List.drop_zero, List.drop_succ_cons, List.take_succ_cons, List.take_zero] at h0 h1
    obtain ⟨s, hs, _, w0⟩ := DataW.trod_int Tryd.underlying3 h0
    obtain ⟨t, ht, htz⟩ := DataW.trod_string Tryd.underlying9 h1
    simp only [List.cons.injEq, and_true] at hs ht
    subst hs ht
    have := htz.2
    unfold maxLen at this
    exact ⟨(s, t), rfl, by show t.size ≤ _; omega, wf_range w0⟩

set_option maxRecDepth 100000 in
theorem ran_open {fuel : Nat} {cs : List Value} {x : DataW H × List MemPlace} (h : DataW.trod enc Tryd.prog W 0 (fun _ => true) held fuel 79 cs = some x) :
    ∃ y : RD, cs = [.int .i64 y.kind, .string y.mod, .int .i64 y.rev, .int .i64 y.wk] ∧ y.mod.size ≤ 9223372036854775807 ∧ i64R y.kind ∧ i64R y.rev ∧ i64R y.wk := by
  obtain ⟨_, _, _, n, hlen, h0, h1, h2⟩ := o_struct3 Tryd.underlying79 h
  rw [Tryd.cellsO79] at hlen
  match cs, hlen with
  | [v0, v1, v2, v3], _ =>
    simp only [Tryd.cells3, Tryd.cells77, List.drop_zero, List.drop_succ_cons, List.take_succ_cons, List.take_zero] at h0 h1 h2
    obtain ⟨⟨k, md⟩, e0, hs, hk⟩ := key_open_r h0
    obtain ⟨rv, e1, _, w1⟩ := DataW.trod_int Tryd.underlying3 h1
    obtain ⟨wk, e2, _, w2⟩ := DataW.trod_int Tryd.underlying3 h2
    simp only [List.cons.injEq, and_true] at e0 e1 e2
    obtain ⟨e0, e0'⟩ := e0
    subst e0 e0' e1 e2
    exact ⟨⟨k, md, rv, wk⟩, rfl, hs, hk, wf_range w1, wf_range w2⟩

theorem rans_open {fuel : Nat} {cs : List Value} {x : DataW H × List MemPlace} (h : DataW.trod enc Tryd.prog W 0 (fun _ => true) held fuel 23 cs = some x) :
    ∃ ao b o n c R, cs = [.slice ao n c] ∧ RanO W ao b o n R ∧ RLen R n ∧ n ≤ 9223372036854775807 ∧ ∀ i, i < n → i64R (R i).kind ∧ i64R (R i).rev ∧ i64R (R i).wk := by
  have hin : Inhabited RD := ⟨⟨0, ByteArray.empty, 0, 0⟩⟩
  rcases open_slice Tryd.underlying23 h with ⟨rfl, _⟩ | ⟨a, len, cap, m, n, D, Pl, rfl, _, hl, hm, hmm, _, hx⟩
  · refine ⟨none, 0, 0, 0, 0, fun _ => hin.default, rfl, ⟨fun h => absurd h (Nat.lt_irrefl _), ?_, ?_, ?_, ?_⟩, ?_, by omega, ?_⟩ <;> exact fun i h => absurd h (Nat.not_lt_zero _)
  · simp only [if_true] at hmm
    subst hmm
    rw [Tryd.cellsO79] at hx
    have each : ∀ i, i < m → ∃ y : RD, (W.cell? (a.add (i * 4)) = some (.int .i64 y.kind) ∧ W.cell? (a.add (i * 4 + 1)) = some (.string y.mod) ∧ W.cell? (a.add (i * 4 + 2)) = some (.int .i64 y.rev) ∧ W.cell? (a.add (i * 4 + 3)) = some (.int .i64 y.wk)) ∧ y.mod.size ≤ 9223372036854775807 ∧ i64R y.kind ∧ i64R y.rev ∧ i64R y.wk := by
      intro i hi
      obtain ⟨cs', h1, h2⟩ := hx i hi
      obtain ⟨y, rfl, hy⟩ := ran_open h2
      obtain ⟨_, _, hc⟩ := World.cells?_some h1
      have e0 := hc 0 (by omega)
      have e1 := hc 1 (by omega)
      have e2 := hc 2 (by omega)
      have e3 := hc 3 (by omega)
      rw [add_add] at e0 e1 e2 e3
      exact ⟨y, ⟨e0, e1, e2, e3⟩, hy⟩
    obtain ⟨y, hy⟩ := choose_lt each
    unfold maxLen at hm
    have hp : 0 < len → a = ⟨a.block, a.off, none⟩ := fun hp => by
      have := (hy 0 (by omega)).1.1
      rw [Nat.zero_mul] at this
      exact addr_plain this
    refine ⟨some a, a.block, a.off, len, m, y, rfl, ⟨fun h => congrArg some (hp h), fun i hi => ?_, fun i hi => ?_, fun i hi => ?_, fun i hi => ?_⟩, fun i hi => (hy i (by omega)).2.1, by omega, fun i hi => (hy i (by omega)).2.2⟩
    · exact addr_at (hp (by omega)) (hy i (by omega)).1.1
    · rw [Nat.add_assoc]; exact addr_at (hp (by omega)) (hy i (by omega)).1.2.1
    · rw [Nat.add_assoc]; exact addr_at (hp (by omega)) (hy i (by omega)).1.2.2.1
    · rw [Nat.add_assoc]; exact addr_at (hp (by omega)) (hy i (by omega)).1.2.2.2
end
end Go.Proofs.YtdolejkpnpchaaaDoor
