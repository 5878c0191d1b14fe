/-
  The program's typeForm.
-/
import Derived.Test.YtcehppndpccldaaDoorVeG
import Derived.Deep.CutBlock
import Derived.Deep.DeepCutAuto
import Derived.BigRegion
namespace Go.Proofs.YtcehppndpccldaaDoor
open Go.RowKit

/-- What a function gives that makes a form of an item. -/
def FmG (w : World) (ff : Option Fm) (e : Ending) (w' : World) : Prop := Below w.heap.size w w' ∧ ∃ (L : Int) (ta : Option Addr) (tn tc : Nat) (na : Option Addr) (n nc : Nat) (ok : Bool), e = .returned (.tuple #[.agg #[.int .i64 L, .slice na n nc, .slice ta tn tc], .bool ok]) ∧ n ≤ 1048576 ∧ ok = ff.isSome ∧
  ∀ f, ff = some f → ∃ (nb tb : Nat), Value.agg #[.int .i64 L, .slice na n nc, .slice ta tn tc] = fmV f na ta nc tc ∧ FmA w' f na ta nb tb ∧ f.needs.length ≤ nc ∧ f.texts.length ≤ tc ∧ w.heap.size ≤ nb ∧ w.heap.size ≤ tb

/-- An item in its box, the answer, the form. -/
structure R3 (w W : World) (X : Nat) (bt : TypeId) (bn : Nat) (bv fv : Nat → Value) : Prop where
  box : W.rowIs X bt bn bv
  res : W.rowIs (X + 1) 97 3 (v3 (.int .i64 0) (.slice none 0 0) (.slice none 0 0))
  frm : W.rowIs (X + 1 + 1) 97 3 fv
  bel : Below w.heap.size w W
  le : w.heap.size ≤ X
namespace R3
variable {w W : World} {X : Nat} {bt : TypeId} {bn : Nat} {bv fv : Nat → Value}
theorem size (h : R3 w W X bt bn bv fv) : X + 3 ≤ W.heap.size := h.frm.lt
theorem alloc (h : R3 w W X bt bn bv fv) (o : Obj) : R3 w (W.alloc o) X bt bn bv fv := ⟨h.box.alloc o, h.res.alloc o, h.frm.alloc o, h.bel.alloc h.bel.size _, h.le⟩
theorem drewN (h : R3 w W X bt bn bv fv) (k : Nat) : R3 w (W.drewN k) X bt bn bv fv := ⟨h.box, h.res, h.frm, below_drewN h.bel k, h.le⟩
theorem drew (h : R3 w W X bt bn bv fv) : R3 w W.drew X bt bn bv fv := ⟨h.box, h.res, h.frm, h.bel.drew, h.le⟩
theorem below {W' : World} (h : R3 w W X bt bn bv fv) (hb : Below (X + 3) W W') : R3 w W' X bt bn bv fv :=
  ⟨h.box.of_block (hb.block _ (by omega)), h.res.of_block (hb.block _ (by omega)), h.frm.of_block (hb.block _ (by omega)), h.bel.trans (hb.mono (by have := h.le; omega)), h.le⟩
theorem setB (h : R3 w W X bt bn bv fv) (i : Nat) (v : Value) : R3 w (W.setCell ⟨X, i, none⟩ v) X bt bn (fun j => if j = i then v else bv j) fv :=
  ⟨h.box.set i v, h.res.setOther (by show X + 1 ≠ X; omega) v, h.frm.setOther (by show X + 1 + 1 ≠ X; omega) v, h.bel.setCell (p := ⟨X, i, none⟩) h.le v, h.le⟩
theorem setF (h : R3 w W X bt bn bv fv) (i : Nat) (v : Value) : R3 w (W.setCell ⟨X + 1 + 1, i, none⟩ v) X bt bn bv (fun j => if j = i then v else fv j) :=
  ⟨h.box.setOther (by show X ≠ X + 1 + 1; omega) v, h.res.setOther (by show X + 1 ≠ X + 1 + 1; omega) v, h.frm.set i v, h.bel.setCell (p := ⟨X + 1 + 1, i, none⟩) (by show w.heap.size ≤ X + 1 + 1; have := h.le; omega) v, h.le⟩
theorem congr {bv' fv' : Nat → Value} (h : R3 w W X bt bn bv fv) (hb : ∀ i, i < bn → bv i = bv' i) (hf : ∀ i, i < 3 → fv i = fv' i) : R3 w W X bt bn bv' fv' := ⟨h.box.congr hb, h.res, h.frm.congr hf, h.bel, h.le⟩
theorem setF2 {a b c : Value} (h : R3 w W X bt bn bv (v3 a b c)) (v : Value) : R3 w (W.setCell ⟨X + 1 + 1, 2, none⟩ v) X bt bn bv (v3 a b v) := (h.setF 2 v).congr (fun _ _ => rfl) (v3_set _ _ _ _)
theorem setF3 (h : R3 w W X bt bn bv fv) (a b c : Value) : R3 w (((W.setCell ⟨X + 1 + 1, 0, none⟩ a).setCell ⟨X + 1 + 1, 1, none⟩ b).setCell ⟨X + 1 + 1, 2, none⟩ c) X bt bn bv (v3 a b c) := (((h.setF 0 a).setF 1 b).setF 2 c).congr (fun _ _ => rfl) fun i hi => by
  match i, hi with
  | 0, _ => rfl
  | 1, _ => rfl
  | 2, _ => rfl
end R3

/-- The form's own lists lie behind the boxes. -/
def FmX (X : Nat) (wc : World) (ff : Option Fm) (L : Int) (ta : Option Addr) (tn tc : Nat) (na : Option Addr) (nn nc : Nat) : Prop := ∀ f, ff = some f → ∃ (nb tb : Nat), Value.agg #[.int .i64 L, .slice na nn nc, .slice ta tn tc] = fmV f na ta nc tc ∧ FmA wc f na ta nb tb ∧ f.needs.length ≤ nc ∧ f.texts.length ≤ tc ∧ X + 1 + 1 < nb ∧ X + 1 + 1 < tb
/-- Behind the switch: the item with what is used struck out, and the form. -/
structure FxT (w : World) (t : TI) (wc : World) (ok : Bool) (md' nm' : ByteArray) (a' : Option Addr) (n' c' : Nat) (L : Int) (ta : Option Addr) (tn tc : Nat) (na : Option Addr) (nn nc : Nat) : Prop where
  r : R3 w wc w.heap.size 66 4 (v4 (.int .i64 t.op) (.string md') (.string nm') (.slice a' n' c')) (v3 (.int .i64 L) (.slice na nn nc) (.slice ta tn tc))
  n : nn ≤ 1048576
  is : (ok && decide (md'.size = 0) && decide (nm'.size = 0) && decide (n' = 0)) = (fT t).isSome
  fm : FmX w.heap.size wc (fT t) L ta tn tc na nn nc

/-- The answer is read of its three cells and the slot. -/
theorem ty_read {V : World} {X : Nat} {a b c d : Value} (r : V.rowIs X 97 3 (v3 a b c)) (tmps : Array Value) (h2 : tmps[2]?.getD undef = .pointer (some ⟨X, 0, none⟩)) (h3 : tmps[3]?.getD undef = d) :
    (results Tryd.f42 tmps).run Tryd.prog V = .ok (.tuple #[.agg #[a, b, c], d]) V := by
  have c0 : V.cell? ⟨X, 0, none⟩ = some a := r.cell (i := 0) (by omega)
  have c1 : V.cell? ⟨X, 1, none⟩ = some b := r.cell (i := 1) (by omega)
  have c2 : V.cell? ⟨X, 2, none⟩ = some c := r.cell (i := 2) (by omega)
  unfold results
  rw [show Tryd.f42.results = #[.cell 2 97, .tmp 3] from rfl]
  simp [go_sem, h2, h3, c0, c1, c2]

theorem FmA.drew {w : World} {f : Fm} {na ta : Option Addr} {nb tb : Nat} (h : FmA w f na ta nb tb) : FmA w.drew f na ta nb tb := ⟨h.nAt, h.need, h.tAt, h.text⟩
theorem FmG.drew {w w' : World} {ff : Option Fm} {e : Ending} (h : FmG w ff e w') : FmG w ff e w'.drew := by
  obtain ⟨b, L, ta, tn, tc, na, n, nc, ok, h1, h2, h3, h4⟩ := h
  refine ⟨b.drew, L, ta, tn, tc, na, n, nc, ok, h1, h2, h3, fun f hf => ?_⟩
  obtain ⟨nb, tb, e1, F, r⟩ := h4 f hf
  exact ⟨nb, tb, e1, F.drew, r⟩
/-- What is given in the end. -/
theorem R3.give {w W : World} {X : Nat} {bt : TypeId} {bn : Nat} {bv : Nat → Value} {L : Int} {ta : Option Addr} {tn tc : Nat} {na : Option Addr} {nn nc : Nat} {ff : Option Fm} (h : R3 w W X bt bn bv (v3 (.int .i64 L) (.slice na nn nc) (.slice ta tn tc))) (hn : nn ≤ 1048576) (hf : FmX X W ff L ta tn tc na nn nc) {b : Bool} (hb : b = ff.isSome) :
    (((W.setCell ⟨X + 1, 0, none⟩ (.int .i64 L)).setCell ⟨X + 1, 1, none⟩ (.slice na nn nc)).setCell ⟨X + 1, 2, none⟩ (.slice ta tn tc)).rowIs (X + 1) 97 3 (v3 (.int .i64 L) (.slice na nn nc) (.slice ta tn tc)) ∧
    FmG w ff (.returned (.tuple #[.agg #[.int .i64 L, .slice na nn nc, .slice ta tn tc], .bool b])) (((W.setCell ⟨X + 1, 0, none⟩ (.int .i64 L)).setCell ⟨X + 1, 1, none⟩ (.slice na nn nc)).setCell ⟨X + 1, 2, none⟩ (.slice ta tn tc)) := by
  have q : w.heap.size ≤ X + 1 := by have := h.le; omega
  refine ⟨(((h.res.set 0 (.int .i64 L)).set 1 _).set 2 (.slice ta tn tc)).congr fun i hi => ?_, ((h.bel.setCell (p := ⟨X + 1, 0, none⟩) q _).setCell (p := ⟨X + 1, 1, none⟩) q _).setCell (p := ⟨X + 1, 2, none⟩) q _, L, ta, tn, tc, na, nn, nc, b, rfl, hn, hb, fun f hf' => ?_⟩
  · match i, hi with
    | 0, _ => rfl
    | 1, _ => rfl
    | 2, _ => rfl
  · obtain ⟨nb, tb, e, F, h1, h2, h3, h4⟩ := hf f hf'
    have blk : ∀ b, X + 1 + 1 < b → (((W.setCell ⟨X + 1, 0, none⟩ (.int .i64 L)).setCell ⟨X + 1, 1, none⟩ (.slice na nn nc)).setCell ⟨X + 1, 2, none⟩ (.slice ta tn tc)).heap[b]? = W.heap[b]? := fun b hb => by
      have ne : ∀ j, b ≠ (⟨X + 1, j, none⟩ : Addr).block := fun j => by show b ≠ X + 1; omega
      rw [Below.heap_setCell _ _ _ _ (ne 2), Below.heap_setCell _ _ _ _ (ne 1), Below.heap_setCell _ _ _ _ (ne 0)]
    have := h.le
    exact ⟨nb, tb, e, F.of_blocks (blk nb h3) (blk tb h4), h1, h2, by omega, by omega⟩

/-- An item with nothing but its number. -/
def bareT (t : TI) (F : Fm) : Prop := fT t = if t.md.size = 0 ∧ t.nm.size = 0 ∧ t.ns.length = 0 then some F else none
theorem fT_bare {t : TI} {o : Int} (ho : t.op = o) : (o = 1 → bareT t ⟨1, [], [xInt]⟩) ∧ (o = 2 → bareT t ⟨1, [], [xBool]⟩) ∧ (o = 3 → bareT t ⟨1, [], [xAny]⟩) ∧ (o = 6 → bareT t ⟨0, [1, 0], [e0, xArr, e0]⟩) := by
  unfold bareT fT
  rw [ho]
  refine ⟨?_, ?_, ?_, ?_⟩ <;>
  · intro e
    subst e
    by_cases h1 : t.md.size = 0 <;> by_cases h2 : t.nm.size = 0 <;> by_cases h3 : t.ns.length = 0 <;> simp [h1, h2, h3]
theorem fT_four {t : TI} (ho : t.op = 4) : fT t = if gPth t.md t.nm && decide (t.ns.length = 0) then some ⟨1, [], [pth t.md t.nm]⟩ else none := by
  unfold fT
  rw [if_pos ho]
theorem fT_five {t : TI} (ho : t.op = 5) : fT t = if t.md.size = 0 ∧ t.nm.size = 0 then (if nmOk t.ns then some (brc t.ns xCs 1) else none) else none := by
  unfold fT
  rw [ho]
  simp
theorem fT_else {t : TI} (h : ¬ t.op = 1 ∧ ¬ t.op = 2 ∧ ¬ t.op = 3 ∧ ¬ t.op = 4 ∧ ¬ t.op = 5 ∧ ¬ t.op = 6) : fT t = none := by
  unfold fT
  rw [if_neg h.2.2.2.1, if_neg h.2.2.2.2.1, if_neg h.1, if_neg h.2.1, if_neg h.2.2.1, if_neg h.2.2.2.2.2]
  split
  · split <;> rfl
  · rfl

theorem bare_is {t : TI} {F : Fm} (h : bareT t F) : (true && decide (t.md.size = 0) && decide (t.nm.size = 0) && decide (t.ns.length = 0)) = (fT t).isSome := by
  rw [h]
  by_cases h1 : t.md.size = 0 <;> by_cases h2 : t.nm.size = 0 <;> by_cases h3 : t.ns.length = 0 <;> simp [h1, h2, h3]
theorem bare_fm {t : TI} {F f : Fm} (h : bareT t F) (hf : fT t = some f) : f = F := by
  rw [h] at hf
  split at hf
  · cases hf; rfl
  · cases hf
/-- One text. -/
theorem one_fm {W : World} {lev : Nat} {x : ByteArray} {na : Option Addr} {X : Nat} (hc : W.cell? ⟨X, 0, none⟩ = some (.string x)) : FmA W ⟨lev, [], [x]⟩ na (some ⟨X, 0, none⟩) X X :=
  ⟨fun h => absurd h (Nat.lt_irrefl _), fun k h => absurd h (Nat.not_lt_zero _), fun _ => rfl, fun k h => by
    have hk : k = 0 := by
      have : k < 1 := h
      omega
    subst hk
    exact hc⟩
theorem FmX.one {X : Nat} {W : World} {lev : Nat} {x : ByteArray} {Y : Nat} {ff : Option Fm} (hc : W.cell? ⟨Y, 0, none⟩ = some (.string x)) (hY : X + 1 + 1 < Y) (hff : ∀ f, ff = some f → f = ⟨lev, [], [x]⟩) : FmX X W ff (lev : Int) (some ⟨Y, 0, none⟩) 1 1 none 0 0 := fun f hf => by
  rw [hff f hf]
  exact ⟨Y, Y, rfl, one_fm hc, Nat.zero_le _, Nat.le_refl _, hY, hY⟩
theorem row_of_list (W : World) (l : List Value) (t : TypeId) : (W.alloc (.cells l.toArray t)).rowIs W.heap.size t l.length (fun i => l.getD i undef) := by
  have := World.rowIs_alloc W l.toArray t (fun i => l.getD i undef) (fun i hi => by
    have hi2 : i < l.length := by simpa using hi
    rw [List.getElem?_toArray, List.getD_eq_getElem?_getD, List.getElem?_eq_getElem hi2]
    rfl)
  simpa using this
/-- A form written out is stored. -/
theorem set_form {w W : World} {X : Nat} {bt : TypeId} {bn : Nat} {bv fv : Nat → Value} {ff : Option Fm} (h : R3 w W X bt bn bv fv) (lev : Nat) (ns : List Nat) (ts : List ByteArray) (hff : ∀ f, ff = some f → f = ⟨lev, ns, ts⟩) (W1 : World)
    (hW : W1 = ((((W.alloc (.cells (ns.map fun n : Nat => Value.int .i64 (n : Int)).toArray 3)).alloc (.cells (ts.map Value.string).toArray 9)).setCell ⟨X + 1 + 1, 0, none⟩ (.int .i64 (lev : Int))).setCell ⟨X + 1 + 1, 1, none⟩ (.slice (some ⟨W.heap.size, 0, none⟩) ns.length ns.length)).setCell ⟨X + 1 + 1, 2, none⟩ (.slice (some ⟨W.heap.size + 1, 0, none⟩) ts.length ts.length)) :
    R3 w W1 X bt bn bv (v3 (.int .i64 (lev : Int)) (.slice (some ⟨W.heap.size, 0, none⟩) ns.length ns.length) (.slice (some ⟨W.heap.size + 1, 0, none⟩) ts.length ts.length)) ∧ FmX X W1 ff (lev : Int) (some ⟨W.heap.size + 1, 0, none⟩) ts.length ts.length (some ⟨W.heap.size, 0, none⟩) ns.length ns.length := by
  have hs := h.size
  refine ⟨by rw [hW]; exact ((h.alloc _).alloc _).setF3 _ _ _, fun f hf => ?_⟩
  rw [hff f hf]
  have r1 := (row_of_list W (ns.map fun n : Nat => Value.int .i64 (n : Int)) 3).alloc (.cells (ts.map Value.string).toArray 9)
  have r2 := row_of_list (W.alloc (.cells (ns.map fun n : Nat => Value.int .i64 (n : Int)).toArray 3)) (ts.map Value.string) 9
  rw [World.size_alloc] at r2
  rw [List.length_map] at r1 r2
  have ne : ∀ b j, X + 1 + 1 < b → b ≠ (⟨X + 1 + 1, j, none⟩ : Addr).block := fun b j hb => by show b ≠ X + 1 + 1; omega
  have s1 := ((r1.setOther (ne _ 0 (by omega)) (.int .i64 (lev : Int))).setOther (ne _ 1 (by omega)) (.slice (some ⟨W.heap.size, 0, none⟩) ns.length ns.length)).setOther (ne _ 2 (by omega)) (.slice (some ⟨W.heap.size + 1, 0, none⟩) ts.length ts.length)
  have s2 := ((r2.setOther (ne _ 0 (by omega)) (.int .i64 (lev : Int))).setOther (ne _ 1 (by omega)) (.slice (some ⟨W.heap.size, 0, none⟩) ns.length ns.length)).setOther (ne _ 2 (by omega)) (.slice (some ⟨W.heap.size + 1, 0, none⟩) ts.length ts.length)
  rw [← hW] at s1 s2
  refine ⟨W.heap.size, W.heap.size + 1, rfl, ⟨fun _ => rfl, fun k hk => ?_, fun _ => rfl, fun k hk => ?_⟩, Nat.le_refl _, Nat.le_refl _, by omega, by omega⟩
  · rw [s1.cell hk, List.getD_eq_getElem?_getD, List.getElem?_map, List.getElem?_eq_getElem hk]
    rfl
  · rw [s2.cell hk, List.getD_eq_getElem?_getD, List.getElem?_map, List.getElem?_eq_getElem hk]
    rfl
theorem cell_after {W : World} {x : ByteArray} {a : Addr} (v : Value) (ha : a.block < W.heap.size) : ((W.alloc (.cells #[.string x] 9)).setCell a v).cell? ⟨W.heap.size, 0, none⟩ = some (.string x) :=
  ((row1 W (.string x) 9).setOther (by omega) v).cell (i := 0) (by omega)

theorem lit_fx {w W0 : World} {t : TI} {p : NPl} {op : Int} {x : ByteArray} (hop : t.op = op) (h : R3 w W0 w.heap.size 66 4 (v4 (.int .i64 op) (.string t.md) (.string t.nm) (.slice p.a t.ns.length p.c)) (v3 (.int .i64 1) (.slice none 0 0) (.slice none 0 0))) (hb : bareT t ⟨1, [], [x]⟩) (hsz : W0.heap.size = w.heap.size + 3) :
    FxT w t ((W0.alloc (.cells #[.string x] 9)).setCell ⟨w.heap.size + 1 + 1, 2, none⟩ (.slice (some ⟨W0.heap.size, 0, none⟩) 1 1)) true t.md t.nm p.a t.ns.length p.c 1 (some ⟨W0.heap.size, 0, none⟩) 1 1 none 0 0 :=
  ⟨by rw [hop]; exact (h.alloc _).setF2 _, by omega, bare_is hb, FmX.one (lev := 1) (cell_after _ (by show w.heap.size + 1 + 1 < _; omega)) (by omega) (fun f hf => bare_fm hb hf)⟩

set_option maxRecDepth 100000 in
set_option maxHeartbeats 4000000 in
theorem p_typeForm (w : World) {t : TI} {p : NPl} (h : TiA w t p) : Calls Tryd.prog 42 #[tiV t p] w (FmG w (fT t)) := by
  have HT : Hid (∀ W, Below w.heap.size w W → TiA W t p) := fun W hb => h.below hb
  have hm := h.md
  have hn := h.nm
  have hl := h.len
  unfold tiV
  obtain ⟨op, hop⟩ : ∃ op, op = t.op := ⟨_, rfl⟩
  have HOP : Hid (t.op = op) := hop.symm
  obtain ⟨W0, hW0⟩ : ∃ W0, W0 = ((w.alloc (.cells #[.int .i64 op, .string t.md, .string t.nm, .slice p.a t.ns.length p.c] 66)).alloc (.cells #[.int .i64 0, .slice none 0 0, .slice none 0 0] 97)).alloc (.cells #[.int .i64 1, .slice none 0 0, .slice none 0 0] 97) := ⟨_, rfl⟩
  have HR : Hid (R3 w W0 w.heap.size 66 4 (v4 (.int .i64 op) (.string t.md) (.string t.nm) (.slice p.a t.ns.length p.c)) (v3 (.int .i64 1) (.slice none 0 0) (.slice none 0 0))) := by
    have r1 := row4 w (.int .i64 op) (.string t.md) (.string t.nm) (.slice p.a t.ns.length p.c) 66
    have r2 := row3 (w.alloc (.cells #[.int .i64 op, .string t.md, .string t.nm, .slice p.a t.ns.length p.c] 66)) (.int .i64 0) (.slice none 0 0) (.slice none 0 0) 97
    have r3 := row3 ((w.alloc (.cells #[.int .i64 op, .string t.md, .string t.nm, .slice p.a t.ns.length p.c] 66)).alloc (.cells #[.int .i64 0, .slice none 0 0, .slice none 0 0] 97)) (.int .i64 1) (.slice none 0 0) (.slice none 0 0) 97
    simp only [World.size_alloc] at r2 r3
    rw [hW0]
    exact ⟨(r1.alloc _).alloc _, r2.alloc _, r3, (bel2 _ _ _).alloc (by simp; omega) _, Nat.le_refl _⟩
  have HSZ : Hid (W0.heap.size = w.heap.size + 3) := by show _ = _; rw [hW0]; simp
  rw [← hop]
  clear hop h
  go_enter Tryd.func42, Tryd.ntmps42
  go_upto_block 0 with fail
  rw [← hW0]
  clear hW0
  go_cut [5] (fun s5 wc => ∃ (ok : Bool) (md' nm' : ByteArray) (a' : Option Addr) (n' c' : Nat) (L : Int) (ta : Option Addr) (tn tc : Nat) (na : Option Addr) (nn nc : Nat), s5 = .bool ok ∧ Hid (FxT w t wc ok md' nm' a' n' c' L ta tn tc na nn nc))
  case first =>
    have y1 : W0.cell? ⟨w.heap.size, 1, none⟩ = some (.string t.md) := HR.out.box.cell (i := 1) (by omega)
    have y2 : W0.cell? ⟨w.heap.size, 2, none⟩ = some (.string t.nm) := HR.out.box.cell (i := 2) (by omega)
    have y3 : W0.cell? ⟨w.heap.size, 3, none⟩ = some (.slice p.a t.ns.length p.c) := HR.out.box.cell (i := 3) (by omega)
    by_cases o1 : op = 1
    · subst o1
      have q2 : (W0.alloc (.cells #[.string ⟨#[105, 110, 116]⟩] 9)).cell? ⟨w.heap.size + 1 + 1, 2, none⟩ = some (.slice none 0 0) := (HR.out.frm.alloc _).cell (i := 2) (by omega)
      have q3 := (HR.out.frm.alloc (.cells #[.string ⟨#[105, 110, 116]⟩] 9)).frozen 2
      go_wp2
      go_meet
      case rel => exact ⟨true, t.md, t.nm, p.a, t.ns.length, p.c, 1, some ⟨W0.heap.size, 0, none⟩, 1, 1, none, 0, 0, rfl, lit_fx HOP.out HR.out ((fT_bare HOP.out).1 rfl) HSZ.out⟩
    by_cases o2 : op = 2
    · subst o2
      have q2 : (W0.alloc (.cells #[.string ⟨#[98, 111, 111, 108]⟩] 9)).cell? ⟨w.heap.size + 1 + 1, 2, none⟩ = some (.slice none 0 0) := (HR.out.frm.alloc _).cell (i := 2) (by omega)
      have q3 := (HR.out.frm.alloc (.cells #[.string ⟨#[98, 111, 111, 108]⟩] 9)).frozen 2
      go_wp2
      go_meet
      case rel => exact ⟨true, t.md, t.nm, p.a, t.ns.length, p.c, 1, some ⟨W0.heap.size, 0, none⟩, 1, 1, none, 0, 0, rfl, lit_fx HOP.out HR.out ((fT_bare HOP.out).2.1 rfl) HSZ.out⟩
    by_cases o3 : op = 3
    · subst o3
      have q2 : (W0.alloc (.cells #[.string ⟨#[63]⟩] 9)).cell? ⟨w.heap.size + 1 + 1, 2, none⟩ = some (.slice none 0 0) := (HR.out.frm.alloc _).cell (i := 2) (by omega)
      have q3 := (HR.out.frm.alloc (.cells #[.string ⟨#[63]⟩] 9)).frozen 2
      go_wp2
      go_meet
      case rel => exact ⟨true, t.md, t.nm, p.a, t.ns.length, p.c, 1, some ⟨W0.heap.size, 0, none⟩, 1, 1, none, 0, 0, rfl, lit_fx HOP.out HR.out ((fT_bare HOP.out).2.2.1 rfl) HSZ.out⟩
    by_cases o6 : op = 6
    · subst o6
      have bs := (fT_bare HOP.out).2.2.2 rfl
      have SF := set_form (ff := fT t) HR.out 0 [1, 0] [e0, xArr, e0] (fun f hf => bare_fm bs hf) _ rfl
      have HSF : Hid _ := SF
      have HBS : Hid _ := bs
      clear SF bs
      have qf := (HR.out.frm.alloc (.cells #[.int .i64 1, .int .i64 0] 3)).alloc (.cells #[.string ⟨#[]⟩, .string ⟨#[32, 45, 62, 32]⟩, .string ⟨#[]⟩] 9)
      have q0 := qf.cell (i := 0) (by omega)
      have q1 := qf.cell (i := 1) (by omega)
      have q2 := qf.cell (i := 2) (by omega)
      have g0 := qf.frozen 0
      have g1 := qf.frozen 1
      have g2 := qf.frozen 2
      clear qf
      go_wp2
      go_meet
      case rel =>
        refine ⟨true, t.md, t.nm, p.a, t.ns.length, p.c, 0, some ⟨W0.heap.size + 1, 0, none⟩, 3, 3, some ⟨W0.heap.size, 0, none⟩, 2, 2, rfl, ?_⟩
        have s1 := HSF.out.1
        exact ⟨by rw [HOP.out]; exact s1, by omega, bare_is HBS.out, HSF.out.2⟩
    by_cases o4 : op = 4
    · subst o4
      obtain ⟨x, hx⟩ : ∃ x, x = pth t.md t.nm := ⟨_, rfl⟩
      obtain ⟨b, hb⟩ : ∃ b, b = gPth t.md t.nm := ⟨_, rfl⟩
      have C1 : Hid (∀ W, Calls Tryd.prog 61 #[.string t.md, .string t.nm] W fun e w' => e = .returned (.string x) ∧ w' = W) := fun W => by rw [hx]; exact p_printedPath W t.md t.nm hm hn
      have C2 : Hid (∀ W, Calls Tryd.prog 62 #[.string t.md, .string t.nm] W fun e w' => e = .returned (.bool b) ∧ w' = W) := fun W => by rw [hb]; exact p_goodPath W t.md t.nm hm hn
      have HFX : Hid (∀ (V : World), V = ((((W0.alloc (.cells #[.string x] 9)).setCell ⟨w.heap.size + 1 + 1, 2, none⟩ (.slice (some ⟨W0.heap.size, 0, none⟩) 1 1)).setCell ⟨w.heap.size, 1, none⟩ (.string ⟨#[]⟩)).setCell ⟨w.heap.size, 2, none⟩ (.string ⟨#[]⟩)) → FxT w t V.drew b ⟨#[]⟩ ⟨#[]⟩ p.a t.ns.length p.c 1 (some ⟨W0.heap.size, 0, none⟩) 1 1 none 0 0) := fun V hV => by
        have e := fT_four HOP.out
        rw [← hx, ← hb] at e
        refine ⟨?_, by omega, ?_, FmX.one (lev := 1) (x := x) ?_ (by have := HSZ.out; omega) fun f hf => ?_⟩
        · rw [hV, HOP.out]
          exact (((((HR.out.alloc _).setF2 _).setB 1 _).setB 2 _).congr (fun i hi => by
            match i, hi with
            | 0, _ => rfl
            | 1, _ => rfl
            | 2, _ => rfl
            | 3, _ => rfl) (fun _ _ => rfl)).drew
        · rw [e]
          rw [show decide ((⟨#[]⟩ : ByteArray).size = 0) = true from rfl]
          cases b <;> by_cases z : t.ns.length = 0 <;> simp [z]
        · have := HSZ.out
          have r := ((((row1 W0 (.string x) 9).setOther (a := ⟨w.heap.size + 1 + 1, 2, none⟩) (by show W0.heap.size ≠ w.heap.size + 1 + 1; omega) (.slice (some ⟨W0.heap.size, 0, none⟩) 1 1)).setOther (a := ⟨w.heap.size, 1, none⟩) (by show W0.heap.size ≠ w.heap.size; omega) (.string ⟨#[]⟩)).setOther (a := ⟨w.heap.size, 2, none⟩) (by show W0.heap.size ≠ w.heap.size; omega) (.string ⟨#[]⟩))
          rw [hV]
          exact r.cell (i := 0) (by omega)
        · rw [e] at hf
          split at hf
          · cases hf; rfl
          · cases hf
      clear hx hb
      have qf := HR.out.frm.alloc (.cells #[.string x] 9)
      have qb := HR.out.box.alloc (.cells #[.string x] 9)
      have q2 : (W0.alloc (.cells #[.string x] 9)).cell? ⟨w.heap.size + 1 + 1, 2, none⟩ = some (.slice none 0 0) := qf.cell (i := 2) (by omega)
      have g2 := qf.frozen 2
      have b1 : (W0.alloc (.cells #[.string x] 9)).cell? ⟨w.heap.size, 1, none⟩ = some (.string t.md) := qb.cell (i := 1) (by omega)
      have b2 : (W0.alloc (.cells #[.string x] 9)).cell? ⟨w.heap.size, 2, none⟩ = some (.string t.nm) := qb.cell (i := 2) (by omega)
      have b3 := qb.frozen 1
      have b4 := qb.frozen 2
      have HK : Hid (((W0.alloc (.cells #[.string x] 9)).setCell ⟨w.heap.size + 1 + 1, 2, none⟩ (.slice (some ⟨W0.heap.size, 0, none⟩) 1 1)).cell? ⟨w.heap.size, 1, none⟩ = some (.string t.md) ∧ ((W0.alloc (.cells #[.string x] 9)).setCell ⟨w.heap.size + 1 + 1, 2, none⟩ (.slice (some ⟨W0.heap.size, 0, none⟩) 1 1)).cell? ⟨w.heap.size, 2, none⟩ = some (.string t.nm)) := by
        have r := qb.setOther (a := ⟨w.heap.size + 1 + 1, 2, none⟩) (by show w.heap.size ≠ w.heap.size + 1 + 1; omega) (.slice (some ⟨W0.heap.size, 0, none⟩) 1 1)
        exact ⟨r.cell (i := 1) (by omega), r.cell (i := 2) (by omega)⟩
      clear qf qb
      go_wp2
      go_region_held3 (fun w' => w'.cell? ⟨w.heap.size, 1, none⟩ = some (.string t.md) ∧ w'.cell? ⟨w.heap.size, 2, none⟩ = some (.string t.nm)) (first | exact HK.out | exact HK.out.1 | exact HK.out.2 | go_keep) (first
        | (go_at_call 61; (with_reducible refine (C1.out _).mono ?_); rintro r0 u0 ⟨rfl, rfl⟩)
        | (go_at_call 62; (with_reducible refine (C2.out _).mono ?_); rintro r1 u1 ⟨rfl, rfl⟩))
      all_goals
        go_wp2
        go_meet
        case rel =>
          exact ⟨b, ⟨#[]⟩, ⟨#[]⟩, p.a, t.ns.length, p.c, 1, some ⟨W0.heap.size, 0, none⟩, 1, 1, none, 0, 0, rfl, HFX.out _ rfl⟩
    by_cases o5 : op = 5
    · subst o5
      obtain ⟨f, hf⟩ : ∃ f, f = brc t.ns xCs 1 := ⟨_, rfl⟩
      obtain ⟨b, hb⟩ : ∃ b, b = nmOk t.ns := ⟨_, rfl⟩
      have E1 : Hid (∀ W, R3 w W w.heap.size 66 4 (v4 (.int .i64 5) (.string t.md) (.string t.nm) (.slice p.a t.ns.length p.c)) (v3 (.int .i64 1) (.slice none 0 0) (.slice none 0 0)) → Calls Tryd.prog 63 #[.slice p.a t.ns.length p.c, .string ⟨#[58, 32]⟩, .int .i64 1] W fun e w' => ∃ (na ta : Option Addr) (nb tb nc tc : Nat), e = .returned (.agg #[.int .i64 (f.lev : Int), .slice na f.needs.length nc, .slice ta f.texts.length tc]) ∧ Hid (R3 w w' w.heap.size 66 4 (v4 (.int .i64 5) (.string t.md) (.string t.nm) (.slice p.a t.ns.length p.c)) (v3 (.int .i64 1) (.slice none 0 0) (.slice none 0 0))) ∧ Hid (FmA w' f na ta nb tb ∧ f.needs.length ≤ nc ∧ f.texts.length ≤ tc ∧ w.heap.size + 1 + 1 < nb ∧ w.heap.size + 1 + 1 < tb)) := fun W hR => by
        have T := HT.out W hR.bel
        have hs := hR.size
        refine (p_braces W T.ns T.len T.sz T.cap xCs (by decide) 1).mono ?_
        rintro e w' ⟨na, ta, nb, tb, nc, tc, rfl, F, n1, n2, n3, n4, B⟩
        rw [← hf] at F n1 n2
        exact ⟨na, ta, nb, tb, nc, tc, by rw [hf]; rfl, hR.below (B.mono (by omega)), F, n1, n2, by omega, by omega⟩
      have E2 : Hid (∀ W, R3 w W w.heap.size 66 4 (v4 (.int .i64 5) (.string t.md) (.string t.nm) (.slice p.a t.ns.length p.c)) (v3 (.int .i64 1) (.slice none 0 0) (.slice none 0 0)) → Calls Tryd.prog 64 #[.slice p.a t.ns.length p.c] W fun e w' => e = .returned (.bool b) ∧ Hid (R3 w w' w.heap.size 66 4 (v4 (.int .i64 5) (.string t.md) (.string t.nm) (.slice p.a t.ns.length p.c)) (v3 (.int .i64 1) (.slice none 0 0) (.slice none 0 0))) ∧ Hid (Below W.heap.size W w')) := fun W hR => by
        have T := HT.out W hR.bel
        have hs := hR.size
        refine (p_different W T.ns T.len T.sz rfl T.cap).mono ?_
        rintro e w' ⟨rfl, B⟩
        exact ⟨by rw [hb], hR.below (B.mono (by omega)), B⟩
      have HFX : Hid (∀ (V u : World) (na ta : Option Addr) (nb tb nc tc : Nat), R3 w u w.heap.size 66 4 (v4 (.int .i64 5) (.string t.md) (.string t.nm) (.slice p.a t.ns.length p.c)) (v3 (.int .i64 1) (.slice none 0 0) (.slice none 0 0)) → (FmA u f na ta nb tb ∧ f.needs.length ≤ nc ∧ f.texts.length ≤ tc ∧ w.heap.size + 1 + 1 < nb ∧ w.heap.size + 1 + 1 < tb) → V = ((((u.setCell ⟨w.heap.size + 1 + 1, 0, none⟩ (.int .i64 (f.lev : Int))).setCell ⟨w.heap.size + 1 + 1, 1, none⟩ (.slice na f.needs.length nc)).setCell ⟨w.heap.size + 1 + 1, 2, none⟩ (.slice ta f.texts.length tc)).setCell ⟨w.heap.size, 3, none⟩ (.slice none 0 0)) → FxT w t V b t.md t.nm none 0 0 (f.lev : Int) ta f.texts.length tc na f.needs.length nc) := fun V u na ta nb tb nc tc hR hF hV => by
        have e := fT_five HOP.out
        rw [← hf, ← hb] at e
        obtain ⟨F, n1, n2, n3, n4⟩ := hF
        refine ⟨?_, ?_, ?_, fun g hg => ?_⟩
        · rw [hV, HOP.out]
          exact (((hR.setF3 _ _ _).setB 3 _).congr (fun i hi => by
            match i, hi with
            | 0, _ => rfl
            | 1, _ => rfl
            | 2, _ => rfl
            | 3, _ => rfl) (fun _ _ => rfl))
        · rw [hf, (brc_ok _ _ _).2.1]; exact hl
        · rw [e]
          cases b <;> by_cases z1 : t.md.size = 0 <;> by_cases z2 : t.nm.size = 0 <;> simp [z1, z2]
        · have hg2 : g = f := by
            rw [e] at hg
            split at hg
            · split at hg
              · cases hg; rfl
              · cases hg
            · cases hg
          rw [hg2]
          have blk : ∀ k, w.heap.size + 1 + 1 < k → V.heap[k]? = u.heap[k]? := fun k hk => by
            have ne : ∀ j, k ≠ (⟨w.heap.size + 1 + 1, j, none⟩ : Addr).block := fun j => by show k ≠ w.heap.size + 1 + 1; omega
            have ne2 : k ≠ (⟨w.heap.size, 3, none⟩ : Addr).block := by show k ≠ w.heap.size; omega
            rw [hV, Below.heap_setCell _ _ _ _ ne2, Below.heap_setCell _ _ _ _ (ne 2), Below.heap_setCell _ _ _ _ (ne 1), Below.heap_setCell _ _ _ _ (ne 0)]
          exact ⟨nb, tb, rfl, F.of_blocks (blk nb n3) (blk tb n4), n1, n2, n3, n4⟩
      have HCL : Hid (∀ u, R3 w u w.heap.size 66 4 (v4 (.int .i64 5) (.string t.md) (.string t.nm) (.slice p.a t.ns.length p.c)) (v3 (.int .i64 1) (.slice none 0 0) (.slice none 0 0)) → (u.cell? ⟨w.heap.size, 3, none⟩ = some (.slice p.a t.ns.length p.c) ∧ u.frozen? ⟨w.heap.size, 3, none⟩ = false) ∧ (u.cell? ⟨w.heap.size + 1 + 1, 0, none⟩ = some (.int .i64 1) ∧ u.cell? ⟨w.heap.size + 1 + 1, 1, none⟩ = some (.slice none 0 0) ∧ u.cell? ⟨w.heap.size + 1 + 1, 2, none⟩ = some (.slice none 0 0)) ∧ u.frozen? ⟨w.heap.size + 1 + 1, 0, none⟩ = false ∧ u.frozen? ⟨w.heap.size + 1 + 1, 1, none⟩ = false ∧ u.frozen? ⟨w.heap.size + 1 + 1, 2, none⟩ = false) := fun u h =>
        ⟨⟨h.box.cell (i := 3) (by omega), h.box.frozen 3⟩, ⟨h.frm.cell (i := 0) (by omega), h.frm.cell (i := 1) (by omega), h.frm.cell (i := 2) (by omega)⟩, h.frm.frozen 0, h.frm.frozen 1, h.frm.frozen 2⟩
      have HKS : Hid (∀ (u : World) (x y z : Value), R3 w u w.heap.size 66 4 (v4 (.int .i64 5) (.string t.md) (.string t.nm) (.slice p.a t.ns.length p.c)) (v3 (.int .i64 1) (.slice none 0 0) (.slice none 0 0)) → (((u.setCell ⟨w.heap.size + 1 + 1, 0, none⟩ x).setCell ⟨w.heap.size + 1 + 1, 1, none⟩ y).setCell ⟨w.heap.size + 1 + 1, 2, none⟩ z).cell? ⟨w.heap.size, 3, none⟩ = some (.slice p.a t.ns.length p.c)) := fun u x y z h => (h.setF3 x y z).box.cell (i := 3) (by omega)
      clear hf hb
      go_wp2
      go_region_held3 (fun w' => w'.cell? ⟨w.heap.size, 3, none⟩ = some (.slice p.a t.ns.length p.c)) (first | (with_reducible exact HKS.out _ _ _ _ R1.out) | go_keep) (first
        | (go_at_call 63; (with_reducible refine (E1.out _ (by first | (with_reducible exact HR.out) | (with_reducible exact HR.out.drew))).mono ?_); rintro r0 u0 ⟨na, ta, nb, tb, nc, tc, rfl, R0, F0⟩; obtain ⟨⟨m0, m1⟩, ⟨m2, m3, m4⟩, m5, m6, m7⟩ := HCL.out u0 R0.out)
        | (go_at_call 64; (with_reducible refine (E2.out _ (by first | (with_reducible exact R0.out) | (with_reducible exact R0.out.drew))).mono ?_); rintro r1 u1 ⟨rfl, R1, V1⟩; obtain ⟨⟨l0, l1⟩, ⟨l2, l3, l4⟩, l5, l6, l7⟩ := HCL.out u1 R1.out))
      all_goals
        go_wp2
        go_meet
        case rel =>
          exact ⟨b, t.md, t.nm, none, 0, 0, (f.lev : Int), ta, f.texts.length, tc, na, f.needs.length, nc, rfl, HFX.out _ u1 na ta nb tb nc tc R1.out ⟨F0.out.1.below V1.out, F0.out.2⟩ rfl⟩
    · have c1 : (op == 1) = false := beq_eq_false_iff_ne.2 o1
      have c2 : (op == 2) = false := beq_eq_false_iff_ne.2 o2
      have c3 : (op == 3) = false := beq_eq_false_iff_ne.2 o3
      have c4 : (op == 4) = false := beq_eq_false_iff_ne.2 o4
      have c5 : (op == 5) = false := beq_eq_false_iff_ne.2 o5
      have c6 : (op == 6) = false := beq_eq_false_iff_ne.2 o6
      have HFN : Hid (fT t = none) := fT_else (by rw [HOP.out]; exact ⟨o1, o2, o3, o4, o5, o6⟩)
      go_wp2
      go_meet
      case rel => exact ⟨false, t.md, t.nm, p.a, t.ns.length, p.c, 1, none, 0, 0, none, 0, 0, rfl, ⟨by rw [HOP.out]; exact HR.out, by omega, by rw [HFN.out]; rfl, fun f hf => by rw [HFN.out] at hf; cases hf⟩⟩
  case rest =>
    obtain ⟨ok, md', nm', a', n', c', L, ta, tn, tc, na, nn, nc, rfl, HX⟩ := hcut
    have R := HX.out.r
    have k1 : wc.cell? ⟨w.heap.size, 1, none⟩ = some (.string md') := R.box.cell (i := 1) (by omega)
    have k2 : wc.cell? ⟨w.heap.size, 2, none⟩ = some (.string nm') := R.box.cell (i := 2) (by omega)
    have k3 : wc.cell? ⟨w.heap.size, 3, none⟩ = some (.slice a' n' c') := R.box.cell (i := 3) (by omega)
    have f0 : wc.cell? ⟨w.heap.size + 1 + 1, 0, none⟩ = some (.int .i64 L) := R.frm.cell (i := 0) (by omega)
    have f1 : wc.cell? ⟨w.heap.size + 1 + 1, 1, none⟩ = some (.slice na nn nc) := R.frm.cell (i := 1) (by omega)
    have f2 : wc.cell? ⟨w.heap.size + 1 + 1, 2, none⟩ = some (.slice ta tn tc) := R.frm.cell (i := 2) (by omega)
    have r0 : wc.cell? ⟨w.heap.size + 1, 0, none⟩ = some (.int .i64 0) := R.res.cell (i := 0) (by omega)
    have r1 : wc.cell? ⟨w.heap.size + 1, 1, none⟩ = some (.slice none 0 0) := R.res.cell (i := 1) (by omega)
    have r2 : wc.cell? ⟨w.heap.size + 1, 2, none⟩ = some (.slice none 0 0) := R.res.cell (i := 2) (by omega)
    have t0 := R.res.frozen 0
    have t1 := R.res.frozen 1
    have t2 := R.res.frozen 2
    have HG : Hid (∀ (b : Bool), b = (ok && decide (md'.size = 0) && decide (nm'.size = 0) && decide (n' = 0)) → ∀ V : World, V = (((wc.setCell ⟨w.heap.size + 1, 0, none⟩ (.int .i64 L)).setCell ⟨w.heap.size + 1, 1, none⟩ (.slice na nn nc)).setCell ⟨w.heap.size + 1, 2, none⟩ (.slice ta tn tc)) → V.drew.rowIs (w.heap.size + 1) 97 3 (v3 (.int .i64 L) (.slice na nn nc) (.slice ta tn tc)) ∧ FmG w (fT t) (.returned (.tuple #[.agg #[.int .i64 L, .slice na nn nc, .slice ta tn tc], .bool b])) V.drew) := fun b hb V hV => by
      have G := HX.out.r.give HX.out.n HX.out.fm (b := b) (by rw [hb, HX.out.is])
      rw [hV]
      exact ⟨G.1.drew, G.2.drew⟩
    clear R HR HX
    cases ok with
    | false =>
      go_wp2
      go_region
      all_goals
        go_wp2
        have G := HG.out false (by show _ = _; rfl) _ rfl
        exact bodyPost_ret (ty_read G.1 _ rfl rfl) rfl G.2
    | true =>
      by_cases z1 : md'.size = 0
      · have e1 : md' = ByteArray.empty := em_zero z1
        subst e1
        by_cases z2 : nm'.size = 0
        · have e2 : nm' = ByteArray.empty := em_zero z2
          subst e2
          by_cases z3 : n' = 0
          · subst z3
            go_wp2
            go_region
            all_goals
              go_wp2
              have G := HG.out true (by show _ = _; rfl) _ rfl
              exact bodyPost_ret (ty_read G.1 _ rfl rfl) rfl G.2
          · have z4 : ((n' : Int) == 0) = false := beq_eq_false_iff_ne.2 (by omega)
            go_wp2
            go_region
            all_goals
              go_wp2
              have G := HG.out false (by show _ = _; rw [decide_eq_false z3]; simp) _ rfl
              exact bodyPost_ret (ty_read G.1 _ rfl rfl) rfl G.2
        · have e2 := em_list z2
          go_wp2
          go_region
          all_goals
            go_wp2
            have G := HG.out false (by show _ = _; rw [decide_eq_false z2]; simp) _ rfl
            exact bodyPost_ret (ty_read G.1 _ rfl rfl) rfl G.2
      · have e1 := em_list z1
        go_wp2
        go_region
        all_goals
          go_wp2
          have G := HG.out false (by show _ = _; rw [decide_eq_false z1]; simp) _ rfl
          exact bodyPost_ret (ty_read G.1 _ rfl rfl) rfl G.2

end Go.Proofs.YtcehppndpccldaaDoor
