/-
  From the reading of the argument to the memory that the walks speak of.
-/
import Derived.Test.YtcehppndpccldaaDoorVfA
import Derived.ProofKit
import Derived.Deep.Slices
import Derived.Deep.Strs
namespace Go.Proofs.YtcehppndpccldaaDoor
open Go.ChangeShapes Go.WideShapes Go.ChangeAt Go.RowKit Go.Deep

theorem addr_plain {w : World} {a : Addr} {v : Value} (h : w.cell? (a.add 0) = some v) : a = ⟨a.block, a.off, none⟩ := by
  obtain ⟨b, o, s⟩ := a
  have hs : s = none := by simpa [Addr.add] using World.cell?_spot h
  subst hs; rfl
theorem addr_at {w : World} {a : Addr} {v : Value} {i : Nat} (hp : a = ⟨a.block, a.off, none⟩) (h : w.cell? (a.add i) = some v) : w.cell? ⟨a.block, a.off + i, none⟩ = some v := by
  rw [hp, add_plain] at h; exact h
theorem wf_range {n : Int} (h : (Lit.int .i64 n).wf = true) : -9223372036854775808 ≤ n ∧ n ≤ 9223372036854775807 := by
  unfold Lit.wf at h
  rw [Bool.and_eq_true, decide_eq_true_iff, decide_eq_true_iff] at h
  exact h
section
variable {P : Program} {H : Type} {enc : TypeId × Value → H} {W : World} {base : Nat} {spare : Nat → Bool} {held : Bool}
theorem o_struct4 {t : TypeId} {f0 f1 f2 f3 : Field} {fuel : Nat} {cs : List Value} {x : DataW H × List MemPlace} (ht : P.underlying t = some (.struct #[f0, f1, f2, f3])) (h : DataW.trod enc P W base spare held fuel t cs = some x) :
    ∃ y0 y1 y2 y3 n, cs.length = P.cellsOf t ∧ DataW.trod enc P W base spare held n f0.type ((cs.drop f0.offset).take (P.cellsOf f0.type)) = some y0 ∧ DataW.trod enc P W base spare held n f1.type ((cs.drop f1.offset).take (P.cellsOf f1.type)) = some y1 ∧ DataW.trod enc P W base spare held n f2.type ((cs.drop f2.offset).take (P.cellsOf f2.type)) = some y2 ∧ DataW.trod enc P W base spare held n f3.type ((cs.drop f3.offset).take (P.cellsOf f3.type)) = some y3 := by
  obtain ⟨xs, n, _, rfl, hl, hlen, hf⟩ := DataW.trod_struct ht h
  match xs, hlen with
  | [y0, y1, y2, y3], _ => exact ⟨y0, y1, y2, y3, n, hl, by simpa using hf 0 f0 rfl, by simpa using hf 1 f1 rfl, by simpa using hf 2 f2 rfl, by simpa using hf 3 f3 rfl⟩
theorem o_struct6 {t : TypeId} {f0 f1 f2 f3 f4 f5 : Field} {fuel : Nat} {cs : List Value} {x : DataW H × List MemPlace} (ht : P.underlying t = some (.struct #[f0, f1, f2, f3, f4, f5])) (h : DataW.trod enc P W base spare held fuel t cs = some x) :
    ∃ y0 y1 y2 y3 y4 y5 n, cs.length = P.cellsOf t ∧ DataW.trod enc P W base spare held n f0.type ((cs.drop f0.offset).take (P.cellsOf f0.type)) = some y0 ∧ DataW.trod enc P W base spare held n f1.type ((cs.drop f1.offset).take (P.cellsOf f1.type)) = some y1 ∧ DataW.trod enc P W base spare held n f2.type ((cs.drop f2.offset).take (P.cellsOf f2.type)) = some y2 ∧ DataW.trod enc P W base spare held n f3.type ((cs.drop f3.offset).take (P.cellsOf f3.type)) = some y3 ∧ DataW.trod enc P W base spare held n f4.type ((cs.drop f4.offset).take (P.cellsOf f4.type)) = some y4 ∧ DataW.trod enc P W base spare held n f5.type ((cs.drop f5.offset).take (P.cellsOf f5.type)) = some y5 := by
  obtain ⟨xs, n, _, rfl, hl, hlen, hf⟩ := DataW.trod_struct ht h
  match xs, hlen with
  | [y0, y1, y2, y3, y4, y5], _ => exact ⟨y0, y1, y2, y3, y4, y5, n, hl, by simpa using hf 0 f0 rfl, by simpa using hf 1 f1 rfl, by simpa using hf 2 f2 rfl, by simpa using hf 3 f3 rfl, by simpa using hf 4 f4 rfl, by simpa using hf 5 f5 rfl⟩
end
theorem Tryd.cls3 : Tryd.prog.cellsOf 3 = 1 := by kernel_rfl
theorem Tryd.cls9 : Tryd.prog.cellsOf 9 = 1 := by kernel_rfl
theorem Tryd.clsS : Tryd.prog.cellsOf 64 = 1 := by kernel_rfl
theorem Tryd.clsTs : Tryd.prog.cellsOf 46 = 1 := by kernel_rfl
theorem Tryd.clsEs : Tryd.prog.cellsOf 47 = 1 := by kernel_rfl
theorem Tryd.clsDs : Tryd.prog.cellsOf 22 = 1 := by kernel_rfl
theorem Tryd.clsT : Tryd.prog.cellsOf 85 = 4 := by kernel_rfl
theorem Tryd.clsE : Tryd.prog.cellsOf 88 = 6 := by kernel_rfl
theorem Tryd.clsD : Tryd.prog.cellsOf 49 = 4 := by kernel_rfl
theorem Tryd.clsM : Tryd.prog.cellsOf 24 = 1 := by kernel_rfl
theorem rm_len {α : Type} (y : Nat → α) (n : Nat) : ((List.range n).map y).length = n := by rw [List.length_map, List.length_range]
theorem rm_get {α : Type} (y : Nat → α) (n k : Nat) (h : k < ((List.range n).map y).length) : ((List.range n).map y)[k] = y k := by rw [List.getElem_map, List.getElem_range]

section
variable {H : Type} {enc : TypeId × Value → H} {W : World} {held : Bool}

theorem names_open {fuel : Nat} {cs : List Value} {x : DataW H × List MemPlace} (h : DataW.trod enc Tryd.prog W 0 (fun _ => true) held fuel 64 cs = some x) :
    ∃ (p : AP) (ns : List ByteArray), cs = [.slice p.a ns.length p.c] ∧ NL W p ns := by
  rcases open_strs Tryd.underlying64 Tryd.underlying9 Tryd.cls9 h with ⟨rfl, _⟩ | ⟨a, len, cap, m, Sx, rfl, _, hl, hm, hmm, _, hx⟩
  · exact ⟨⟨none, 0, 0, 0⟩, [], rfl, ⟨fun h => absurd h (Nat.lt_irrefl _), fun _ h => absurd h (Nat.not_lt_zero _), Nat.zero_le _, fun _ h => absurd h (Nat.not_lt_zero _)⟩⟩
  · simp only [if_true] at hmm
    subst hmm
    unfold maxLen at hm hx
    have gd : ∀ k, k < len → ((List.range len).map Sx).getD k e0 = Sx k := fun k hk => by
      rw [List.getD_eq_getElem?_getD, List.getElem?_eq_getElem (by rw [rm_len]; exact hk), rm_get]
      rfl
    refine ⟨⟨some a, a.block, a.off, m⟩, (List.range len).map Sx, by rw [rm_len], ⟨fun hp => congrArg some (addr_plain (hx 0 (by rw [rm_len] at hp; omega)).1), fun i hi => ?_, by rw [rm_len]; omega, fun i hi => ?_⟩⟩
    · rw [rm_len] at hi
      rw [gd i hi]
      exact addr_at (addr_plain (hx 0 (by omega)).1) (hx i (by omega)).1
    · rw [rm_len] at hi
      rw [gd i hi]
      have := (hx i (by omega)).2
      omega

set_option maxRecDepth 100000 in
theorem titem_open {fuel : Nat} {cs : List Value} {x : DataW H × List MemPlace} (h : DataW.trod enc Tryd.prog W 0 (fun _ => true) held fuel 85 cs = some x) :
    ∃ y : TI × AP, cs = [.int .i64 y.1.op, .string y.1.md, .string y.1.nm, .slice y.2.a y.1.ns.length y.2.c] ∧ NL W y.2 y.1.ns ∧ y.1.md.size ≤ 9223372036854775807 ∧ y.1.nm.size ≤ 9223372036854775807 := by
  obtain ⟨_, _, _, _, n, hlen, h0, h1, h2, h3⟩ := o_struct4 Tryd.underlying85 h
  rw [Tryd.clsT] at hlen
  match cs, hlen with
  | [v0, v1, v2, v3], _ =>
    simp only [Tryd.cls3, Tryd.cls9, Tryd.clsS, List.drop_zero, List.drop_succ_cons, List.take_succ_cons, List.take_zero] at h0 h1 h2 h3
    obtain ⟨op, e0, _, w0⟩ := DataW.trod_int Tryd.underlying3 h0
    obtain ⟨md, e1, z1⟩ := DataW.trod_string Tryd.underlying9 h1
    have z1b := z1.2
    unfold maxLen at z1b
    obtain ⟨nm, e2, z2⟩ := DataW.trod_string Tryd.underlying9 h2
    have z2b := z2.2
    unfold maxLen at z2b
    obtain ⟨nsp, ns, e3, r3⟩ := names_open h3
    simp only [List.cons.injEq, and_true] at e0 e1 e2 e3
    subst e0 e1 e2 e3
    exact ⟨(⟨op, md, nm, ns⟩, nsp), rfl, r3, by show md.size ≤ _; omega, by show nm.size ≤ _; omega⟩

theorem titems_open {fuel : Nat} {cs : List Value} {x : DataW H × List MemPlace} (h : DataW.trod enc Tryd.prog W 0 (fun _ => true) held fuel 46 cs = some x) :
    ∃ (p : AP) (xs : List (TI × AP)), cs = [.slice p.a xs.length p.c] ∧ TL W p xs := by
  rcases open_slice Tryd.underlying46 h with ⟨rfl, _⟩ | ⟨a, len, cap, m, n, D, Pl, rfl, _, hl, hm, hmm, _, hx⟩
  · exact ⟨⟨none, 0, 0, 0⟩, [], rfl, ⟨fun h => absurd h (Nat.lt_irrefl _), fun _ h => absurd h (Nat.not_lt_zero _), fun _ h => absurd h (Nat.not_lt_zero _), Nat.zero_le _, fun _ h => absurd h (Nat.not_lt_zero _)⟩⟩
  · simp only [if_true] at hmm
    subst hmm
    rw [Tryd.clsT] at hx
    have each : ∀ i, i < m → ∃ y : TI × AP, (W.cell? (a.add (i * 4)) = some (.int .i64 y.1.op) ∧ W.cell? (a.add (i * 4 + 1)) = some (.string y.1.md) ∧ W.cell? (a.add (i * 4 + 2)) = some (.string y.1.nm) ∧ W.cell? (a.add (i * 4 + 3)) = some (.slice y.2.a y.1.ns.length y.2.c)) ∧ NL W y.2 y.1.ns ∧ y.1.md.size ≤ 9223372036854775807 ∧ y.1.nm.size ≤ 9223372036854775807 := by
      intro i hi
      obtain ⟨cs', h1, h2⟩ := hx i hi
      obtain ⟨y, rfl, hy⟩ := titem_open h2
      obtain ⟨_, _, hc⟩ := World.cells?_some h1
      have e0 := hc 0 (by omega)
      have e1 := hc 1 (by omega)
      have e2 := hc 2 (by omega)
      have e3 := hc 3 (by omega)
      rw [add_add] at e0 e1 e2 e3
      exact ⟨y, ⟨e0, e1, e2, e3⟩, hy⟩
    have hin : Inhabited (TI × AP) := ⟨(⟨0, e0, e0, []⟩, ⟨none, 0, 0, 0⟩)⟩
    obtain ⟨y, hy⟩ := choose_lt each
    unfold maxLen at hm
    have hp : 0 < len → a = ⟨a.block, a.off, none⟩ := fun hp => by
      have := (hy 0 (by omega)).1.1
      rw [Nat.zero_mul] at this
      exact addr_plain this
    have hk : ∀ k, k < ((List.range len).map y).length → k < m := fun k hk => by rw [rm_len] at hk; omega
    have hq : ∀ k, k < ((List.range len).map y).length → a = ⟨a.block, a.off, none⟩ := fun k hk => hp (by rw [rm_len] at hk; omega)
    refine ⟨⟨some a, a.block, a.off, m⟩, (List.range len).map y, by rw [rm_len], ⟨fun h => congrArg some (hp (by rw [rm_len] at h; exact h)), fun k h => ?_, fun k h => by rw [rm_get]; exact (hy k (hk k h)).2.1, by rw [rm_len]; omega, fun k h => by rw [rm_get]; exact (hy k (hk k h)).2.2⟩⟩
    rw [rm_get]
    obtain ⟨e0, e1, e2, e3⟩ := (hy k (hk k h)).1
    have hh := hq k h
    exact ⟨addr_at hh e0, by rw [Nat.add_assoc]; exact addr_at hh e1, by rw [Nat.add_assoc]; exact addr_at hh e2, by rw [Nat.add_assoc]; exact addr_at hh e3⟩

set_option maxRecDepth 100000 in
theorem eitem_open {fuel : Nat} {cs : List Value} {x : DataW H × List MemPlace} (h : DataW.trod enc Tryd.prog W 0 (fun _ => true) held fuel 88 cs = some x) :
    ∃ y : EI × EQ, cs = [.int .i64 y.1.op, .int .i64 y.1.num, .string y.1.md, .string y.1.nm, .slice y.2.np.a y.1.ns.length y.2.np.c, .slice y.2.tp.a y.1.ty.length y.2.tp.c] ∧ NL W y.2.np y.1.ns ∧ TL W y.2.tp y.2.ts ∧ y.2.ts.map Prod.fst = y.1.ty ∧ (y.1.md.size ≤ 9223372036854775807 ∧ y.1.nm.size ≤ 9223372036854775807) ∧ (-9223372036854775808 ≤ y.1.num ∧ y.1.num ≤ 9223372036854775807) := by
  obtain ⟨_, _, _, _, _, _, n, hlen, h0, h1, h2, h3, h4, h5⟩ := o_struct6 Tryd.underlying88 h
  rw [Tryd.clsE] at hlen
  match cs, hlen with
  | [v0, v1, v2, v3, v4, v5], _ =>
    simp only [Tryd.cls3, Tryd.cls9, Tryd.clsS, Tryd.clsTs, List.drop_zero, List.drop_succ_cons, List.take_succ_cons, List.take_zero] at h0 h1 h2 h3 h4 h5
    obtain ⟨op, e0, _, w0⟩ := DataW.trod_int Tryd.underlying3 h0
    obtain ⟨num, e1, _, w1⟩ := DataW.trod_int Tryd.underlying3 h1
    obtain ⟨md, e2, z2⟩ := DataW.trod_string Tryd.underlying9 h2
    have z2b := z2.2
    unfold maxLen at z2b
    obtain ⟨nm, e3, z3⟩ := DataW.trod_string Tryd.underlying9 h3
    have z3b := z3.2
    unfold maxLen at z3b
    obtain ⟨nsp, ns, e4, r4⟩ := names_open h4
    obtain ⟨tsp, ts, e5, r5⟩ := titems_open h5
    simp only [List.cons.injEq, and_true] at e0 e1 e2 e3 e4 e5
    subst e0 e1 e2 e3 e4 e5
    exact ⟨(⟨op, num, md, nm, ns, ts.map Prod.fst⟩, ⟨nsp, tsp, ts⟩), by simp, r4, r5, rfl, ⟨by show md.size ≤ _; omega, by show nm.size ≤ _; omega⟩, wf_range w1⟩

theorem eitems_open {fuel : Nat} {cs : List Value} {x : DataW H × List MemPlace} (h : DataW.trod enc Tryd.prog W 0 (fun _ => true) held fuel 47 cs = some x) :
    ∃ (p : AP) (xs : List (EI × EQ)), cs = [.slice p.a xs.length p.c] ∧ EL W p xs := by
  rcases open_slice Tryd.underlying47 h with ⟨rfl, _⟩ | ⟨a, len, cap, m, n, D, Pl, rfl, _, hl, hm, hmm, _, hx⟩
  · exact ⟨⟨none, 0, 0, 0⟩, [], rfl, ⟨fun h => absurd h (Nat.lt_irrefl _), fun _ h => absurd h (Nat.not_lt_zero _), fun _ h => absurd h (Nat.not_lt_zero _), fun _ h => absurd h (Nat.not_lt_zero _), fun _ h => absurd h (Nat.not_lt_zero _), Nat.zero_le _, fun _ h => absurd h (Nat.not_lt_zero _), fun _ h => absurd h (Nat.not_lt_zero _)⟩⟩
  · simp only [if_true] at hmm
    subst hmm
    rw [Tryd.clsE] at hx
    have each : ∀ i, i < m → ∃ y : EI × EQ, (W.cell? (a.add (i * 6)) = some (.int .i64 y.1.op) ∧ W.cell? (a.add (i * 6 + 1)) = some (.int .i64 y.1.num) ∧ W.cell? (a.add (i * 6 + 2)) = some (.string y.1.md) ∧ W.cell? (a.add (i * 6 + 3)) = some (.string y.1.nm) ∧ W.cell? (a.add (i * 6 + 4)) = some (.slice y.2.np.a y.1.ns.length y.2.np.c) ∧ W.cell? (a.add (i * 6 + 5)) = some (.slice y.2.tp.a y.1.ty.length y.2.tp.c)) ∧ NL W y.2.np y.1.ns ∧ TL W y.2.tp y.2.ts ∧ y.2.ts.map Prod.fst = y.1.ty ∧ (y.1.md.size ≤ 9223372036854775807 ∧ y.1.nm.size ≤ 9223372036854775807) ∧ (-9223372036854775808 ≤ y.1.num ∧ y.1.num ≤ 9223372036854775807) := by
      intro i hi
      obtain ⟨cs', h1, h2⟩ := hx i hi
      obtain ⟨y, rfl, hy⟩ := eitem_open h2
      obtain ⟨_, _, hc⟩ := World.cells?_some h1
      have e0 := hc 0 (by omega)
      have e1 := hc 1 (by omega)
      have e2 := hc 2 (by omega)
      have e3 := hc 3 (by omega)
      have e4 := hc 4 (by omega)
      have e5 := hc 5 (by omega)
      rw [add_add] at e0 e1 e2 e3 e4 e5
      exact ⟨y, ⟨e0, e1, e2, e3, e4, e5⟩, hy⟩
    have hin : Inhabited (EI × EQ) := ⟨(⟨0, 0, e0, e0, [], []⟩, ⟨⟨none, 0, 0, 0⟩, ⟨none, 0, 0, 0⟩, []⟩)⟩
    obtain ⟨y, hy⟩ := choose_lt each
    unfold maxLen at hm
    have hp : 0 < len → a = ⟨a.block, a.off, none⟩ := fun hp => by
      have := (hy 0 (by omega)).1.1
      rw [Nat.zero_mul] at this
      exact addr_plain this
    have hk : ∀ k, k < ((List.range len).map y).length → k < m := fun k hk => by rw [rm_len] at hk; omega
    have hq : ∀ k, k < ((List.range len).map y).length → a = ⟨a.block, a.off, none⟩ := fun k hk => hp (by rw [rm_len] at hk; omega)
    refine ⟨⟨some a, a.block, a.off, m⟩, (List.range len).map y, by rw [rm_len], ⟨fun h => congrArg some (hp (by rw [rm_len] at h; exact h)), fun k h => ?_, fun k h => by rw [rm_get]; exact (hy k (hk k h)).2.1, fun k h => by rw [rm_get]; exact (hy k (hk k h)).2.2.1, fun k h => by rw [rm_get]; exact (hy k (hk k h)).2.2.2.1, by rw [rm_len]; omega, fun k h => by rw [rm_get]; exact (hy k (hk k h)).2.2.2.2.1, fun k h => by rw [rm_get]; exact (hy k (hk k h)).2.2.2.2.2⟩⟩
    rw [rm_get]
    obtain ⟨e0, e1, e2, e3, e4, e5⟩ := (hy k (hk k h)).1
    have hh := hq k h
    exact ⟨addr_at hh e0, by rw [Nat.add_assoc]; exact addr_at hh e1, by rw [Nat.add_assoc]; exact addr_at hh e2, by rw [Nat.add_assoc]; exact addr_at hh e3, by rw [Nat.add_assoc]; exact addr_at hh e4, by rw [Nat.add_assoc]; exact addr_at hh e5⟩

set_option maxRecDepth 100000 in
theorem decl_open {fuel : Nat} {cs : List Value} {x : DataW H × List MemPlace} (h : DataW.trod enc Tryd.prog W 0 (fun _ => true) held fuel 49 cs = some x) :
    ∃ y : DC × DQ, cs = [.int .i64 y.1.kind, .string y.1.nm, .slice y.2.tp.a y.1.ty.length y.2.tp.c, .slice y.2.ep.a y.1.ex.length y.2.ep.c] ∧ TL W y.2.tp y.2.ts ∧ y.2.ts.map Prod.fst = y.1.ty ∧ EL W y.2.ep y.2.es ∧ y.2.es.map Prod.fst = y.1.ex ∧ y.1.nm.size ≤ 9223372036854775807 := by
  obtain ⟨_, _, _, _, n, hlen, h0, h1, h2, h3⟩ := o_struct4 Tryd.underlying49 h
  rw [Tryd.clsD] at hlen
  match cs, hlen with
  | [v0, v1, v2, v3], _ =>
    simp only [Tryd.cls3, Tryd.cls9, Tryd.clsTs, Tryd.clsEs, List.drop_zero, List.drop_succ_cons, List.take_succ_cons, List.take_zero] at h0 h1 h2 h3
    obtain ⟨kind, e0, _, w0⟩ := DataW.trod_int Tryd.underlying3 h0
    obtain ⟨nm, e1, z1⟩ := DataW.trod_string Tryd.underlying9 h1
    have z1b := z1.2
    unfold maxLen at z1b
    obtain ⟨tsp, ts, e2, r2⟩ := titems_open h2
    obtain ⟨esp, es, e3, r3⟩ := eitems_open h3
    simp only [List.cons.injEq, and_true] at e0 e1 e2 e3
    subst e0 e1 e2 e3
    exact ⟨(⟨kind, nm, ts.map Prod.fst, es.map Prod.fst⟩, ⟨tsp, esp, ts, es⟩), by simp, r2, rfl, r3, rfl, by show nm.size ≤ _; omega⟩

theorem decls_open {fuel : Nat} {cs : List Value} {x : DataW H × List MemPlace} (h : DataW.trod enc Tryd.prog W 0 (fun _ => true) held fuel 22 cs = some x) :
    ∃ (p : AP) (xs : List (DC × DQ)), cs = [.slice p.a xs.length p.c] ∧ DL W p xs := by
  rcases open_slice Tryd.underlying22 h with ⟨rfl, _⟩ | ⟨a, len, cap, m, n, D, Pl, rfl, _, hl, hm, hmm, _, hx⟩
  · exact ⟨⟨none, 0, 0, 0⟩, [], rfl, ⟨fun h => absurd h (Nat.lt_irrefl _), fun _ h => absurd h (Nat.not_lt_zero _), fun _ h => absurd h (Nat.not_lt_zero _), fun _ h => absurd h (Nat.not_lt_zero _), fun _ h => absurd h (Nat.not_lt_zero _), fun _ h => absurd h (Nat.not_lt_zero _), Nat.zero_le _, fun _ h => absurd h (Nat.not_lt_zero _)⟩⟩
  · simp only [if_true] at hmm
    subst hmm
    rw [Tryd.clsD] at hx
    have each : ∀ i, i < m → ∃ y : DC × DQ, (W.cell? (a.add (i * 4)) = some (.int .i64 y.1.kind) ∧ W.cell? (a.add (i * 4 + 1)) = some (.string y.1.nm) ∧ W.cell? (a.add (i * 4 + 2)) = some (.slice y.2.tp.a y.1.ty.length y.2.tp.c) ∧ W.cell? (a.add (i * 4 + 3)) = some (.slice y.2.ep.a y.1.ex.length y.2.ep.c)) ∧ TL W y.2.tp y.2.ts ∧ y.2.ts.map Prod.fst = y.1.ty ∧ EL W y.2.ep y.2.es ∧ y.2.es.map Prod.fst = y.1.ex ∧ y.1.nm.size ≤ 9223372036854775807 := by
      intro i hi
      obtain ⟨cs', h1, h2⟩ := hx i hi
      obtain ⟨y, rfl, hy⟩ := decl_open h2
      obtain ⟨_, _, hc⟩ := World.cells?_some h1
      have e0 := hc 0 (by omega)
      have e1 := hc 1 (by omega)
      have e2 := hc 2 (by omega)
      have e3 := hc 3 (by omega)
      rw [add_add] at e0 e1 e2 e3
      exact ⟨y, ⟨e0, e1, e2, e3⟩, hy⟩
    have hin : Inhabited (DC × DQ) := ⟨(⟨0, e0, [], []⟩, ⟨⟨none, 0, 0, 0⟩, ⟨none, 0, 0, 0⟩, [], []⟩)⟩
    obtain ⟨y, hy⟩ := choose_lt each
    unfold maxLen at hm
    have hp : 0 < len → a = ⟨a.block, a.off, none⟩ := fun hp => by
      have := (hy 0 (by omega)).1.1
      rw [Nat.zero_mul] at this
      exact addr_plain this
    have hk : ∀ k, k < ((List.range len).map y).length → k < m := fun k hk => by rw [rm_len] at hk; omega
    have hq : ∀ k, k < ((List.range len).map y).length → a = ⟨a.block, a.off, none⟩ := fun k hk => hp (by rw [rm_len] at hk; omega)
    refine ⟨⟨some a, a.block, a.off, m⟩, (List.range len).map y, by rw [rm_len], ⟨fun h => congrArg some (hp (by rw [rm_len] at h; exact h)), fun k h => ?_, fun k h => by rw [rm_get]; exact (hy k (hk k h)).2.1, fun k h => by rw [rm_get]; exact (hy k (hk k h)).2.2.1, fun k h => by rw [rm_get]; exact (hy k (hk k h)).2.2.2.1, fun k h => by rw [rm_get]; exact (hy k (hk k h)).2.2.2.2.1, by rw [rm_len]; omega, fun k h => by rw [rm_get]; exact (hy k (hk k h)).2.2.2.2.2⟩⟩
    rw [rm_get]
    obtain ⟨e0, e1, e2, e3⟩ := (hy k (hk k h)).1
    have hh := hq k h
    exact ⟨addr_at hh e0, by rw [Nat.add_assoc]; exact addr_at hh e1, by rw [Nat.add_assoc]; exact addr_at hh e2, by rw [Nat.add_assoc]; exact addr_at hh e3⟩
end

end Go.Proofs.YtcehppndpccldaaDoor
