/-
  The program's ParseScript.
-/
import Derived.Test.YthmihmnagnibmaaDoorPrT
namespace Go.Proofs.YthmihmnagnibmaaDoor
open Go Go.RowKit Go.Shelf
attribute [local go_sem] Oper.semAt_some

set_option maxRecDepth 100000 in
set_option maxHeartbeats 4000000 in
theorem p_lines (s : ByteArray) (w : World) : Calls Tryd.prog 13 #[.string s] w fun e w' => e = .returned (.func (.func 23) #[] #[.pointer (some ⟨w.heap.size, 0, none⟩)]) ∧ w' = w.alloc (.cells #[.string s] 9) := by
  go_enter Tryd.func13, Tryd.ntmps13
  go_wp2
  go_ret
  exact ⟨rfl, rfl⟩

/-- Between two lines. -/
structure PJ (w : World) (s : ByteArray) (b0 b1 sb ib lo k : Nat) (W : World) : Prop where
  st : ∃ v, W.rowIs sb 24 3 (t3 (.int .i64 (wksK s k)) (.int .i64 (cpyK s k)) v) ∧ OwnE W lo v (evsK s k)
  ix : W.rowIs ib 3 1 (fun _ => .int .i64 (k : Int))
  r0 : W.rowIs b0 24 3 z3
  r1 : W.rowIs b1 3 1 (fun _ => .int .i64 0)
  b : Below w.heap.size w W
  lw : lo ≤ W.heap.size
  good : goodK s k
/-- Behind a line that ends the reading. -/
structure PX (w : World) (s : ByteArray) (b0 b1 k : Nat) (W : World) : Prop where
  r0 : W.rowIs b0 24 3 z3
  r1 : W.rowIs b1 3 1 (fun _ => .int .i64 (k : Int))
  b : Below w.heap.size w W
  sc : scOf s = (scz, (k : Int))

theorem row_grown {W W' : World} {row : Option Nat} {b n : Nat} {t : TypeId} {f : Nat → Value} (h : W.rowIs b t n f) (hg : W.grownBy W' row) (hr : ∀ r, row = some r → ∃ o : Obj, W.heap[r]? = some o ∧ o.isCells = false) : W'.rowIs b t n f := by
  obtain ⟨c, hc, h1, h2⟩ := h
  refine ⟨c, ?_, h1, h2⟩
  rw [hg.block b (Array.getElem?_eq_some_iff.1 hc).1 (fun e => ?_), hc]
  obtain ⟨o, ho, hoc⟩ := hr b e.symm
  rw [hc] at ho
  cases Option.some.inj ho
  cases hoc
theorem own_grown {W W' : World} {row : Option Nat} {lo : Nat} {v : Value} {l : List EV} (h : OwnE W lo v l) (hg : W.grownBy W' row) (hr : ∀ r, row = some r → ∃ o : Obj, W.heap[r]? = some o ∧ o.isCells = false) : OwnE W' lo v l := by
  obtain ⟨k1, k2⟩ := h
  refine ⟨k1, ?_⟩
  rcases k2 with k2 | ⟨g', cp, cur, hv, hbb, hh, r⟩
  · exact Or.inl k2
  · refine Or.inr ⟨g', cp, cur, hv, hbb, ?_, r⟩
    rw [hg.block g' (Array.getElem?_eq_some_iff.1 hh).1 (fun e => ?_), hh]
    obtain ⟨o, ho, hoc⟩ := hr g' e.symm
    rw [hh] at ho
    cases Option.some.inj ho
    cases hoc
theorem pj_own {w : World} {s : ByteArray} {b0 b1 sb ib lo : Nat} (h : w.heap.size ≤ lo) : OwnFrom lo (PJ w s b0 b1 sb ib lo) := by
  intro k W W' row hJ hg hr
  have hr2 : ∀ r, row = some r → ∃ o : Obj, W.heap[r]? = some o ∧ o.isCells = false := fun r e => (hr r e).2
  obtain ⟨⟨v, s1, s2⟩, h2, h3, h4, h5, h6, h7⟩ := hJ
  refine ⟨⟨v, row_grown s1 hg hr2, own_grown s2 hg hr2⟩, row_grown h2 hg hr2, row_grown h3 hg hr2, row_grown h4 hg hr2, ?_, Nat.le_trans h6 hg.size, h7⟩
  exact h5.grown hg h5.size (fun r e => Nat.le_trans h (hr r e).1)
theorem px_own {w : World} {s : ByteArray} {b0 b1 lo : Nat} (h : w.heap.size ≤ lo) : OwnFrom lo (PX w s b0 b1) := by
  intro k W W' row hJ hg hr
  have hr2 : ∀ r, row = some r → ∃ o : Obj, W.heap[r]? = some o ∧ o.isCells = false := fun r e => (hr r e).2
  obtain ⟨h3, h4, h5, h6⟩ := hJ
  exact ⟨row_grown h3 hg hr2, row_grown h4 hg hr2, h5.grown hg h5.size (fun r e => Nat.le_trans h (hr r e).1), h6⟩
theorem row_set {W : World} {b x n i : Nat} {t : TypeId} {f : Nat → Value} {u : Value} (h : W.rowIs b t n f) (hx : b ≠ x) : (W.setCell ⟨x, i, none⟩ u).rowIs b t n f := h.of_block (Below.heap_setCell _ _ _ _ (by show b ≠ x; exact hx))
theorem pj_set {w : World} {s : ByteArray} {b0 b1 sb ib lo xb k : Nat} {W : World} (u : Value) (h : PJ w s b0 b1 sb ib lo k W) (h1 : w.heap.size ≤ xb) (h2 : xb < lo) (n0 : b0 ≠ xb) (n1 : b1 ≠ xb) (n2 : sb ≠ xb) (n3 : ib ≠ xb) : PJ w s b0 b1 sb ib lo k (W.setCell ⟨xb, 0, none⟩ u) := by
  obtain ⟨⟨v, s1, s2⟩, g2, g3, g4, g5, g6, g7⟩ := h
  exact ⟨⟨v, row_set s1 n2, own_setE s2 (Nat.le_refl _) h2⟩, row_set g2 n3, row_set g3 n0, row_set g4 n1, g5.setCell (p := ⟨xb, 0, none⟩) h1 _, by simp; exact g6, g7⟩

end Go.Proofs.YthmihmnagnibmaaDoor
