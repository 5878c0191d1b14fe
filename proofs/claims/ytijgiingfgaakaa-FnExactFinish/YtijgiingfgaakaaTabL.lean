/-
  Tables: a variable of the law that holds a table.
-/
import Derived.Test.YtijgiingfgaakaaTabB4
import Derived.Test.YtijgiingfgaakaaTabM3
namespace Go.Proofs.Ytijgiingfgaakaa
open Go.RowKit

/-- A variable with a table in memory of its own; all of it between base and top. -/
structure TV (w : World) (base top xb lo hi : Nat) (ta : Option Addr) (tb n tc : Nat) (tq : Nat → SP) (D : Nat → SD) : Prop where
  row : w.rowIs xb 28 1 (fun _ => .slice ta n tc)
  tab : TabNew w lo hi ta tb n tq D
  apart : xb < lo ∨ hi ≤ xb
  x1 : base ≤ xb
  x2 : xb < top
  l1 : base ≤ lo
  h1 : hi ≤ top

theorem TV.below {w w' : World} {base top xb lo hi : Nat} {ta : Option Addr} {tb n tc : Nat} {tq : Nat → SP} {D : Nat → SD} (h : TV w base top xb lo hi ta tb n tc tq D) (hb : Below w.heap.size w w') : TV w' base top xb lo hi ta tb n tc tq D :=
  ⟨h.row.of_block (hb.block _ h.row.lt), h.tab.below hb, h.apart, h.x1, h.x2, h.l1, h.h1⟩
theorem TV.span {w w' : World} {base top xb lo hi : Nat} {ta : Option Addr} {tb n tc : Nat} {tq : Nat → SP} {D : Nat → SD} (h : TV w base top xb lo hi ta tb n tc tq D) {l2 h2 : Nat} (hs : Span l2 h2 w w') (hd : top ≤ l2 ∨ h2 ≤ base) : TV w' base top xb lo hi ta tb n tc tq D :=
  ⟨h.row.of_block (hs.block _ h.row.lt (by have := h.x1; have := h.x2; omega)), h.tab.span hs (by have := h.l1; have := h.h1; omega), h.apart, h.x1, h.x2, h.l1, h.h1⟩
/-- Its own table is changed. -/
theorem TV.own {w w' : World} {base top xb lo hi : Nat} {ta : Option Addr} {tb n tc : Nat} {tq : Nat → SP} {D E : Nat → SD} (h : TV w base top xb lo hi ta tb n tc tq D) (hs : Span lo hi w w') (hT : TabNew w' lo hi ta tb n tq E) : TV w' base top xb lo hi ta tb n tc tq E :=
  ⟨h.row.of_block (hs.block _ h.row.lt h.apart), hT, h.apart, h.x1, h.x2, h.l1, h.h1⟩

/-- The variable is made behind the table. -/
theorem tv_late {w0 w : World} {lo : Nat} {ta : Option Addr} {tb n tc : Nat} {tq : Nat → SP} {D : Nat → SD} (hT : TabNew w lo w.heap.size ta tb n tq D) (hlo : w0.heap.size ≤ lo) (hw : w0.heap.size ≤ w.heap.size) : TV (w.alloc (.cells #[.slice ta n tc] 28)) w0.heap.size (w.alloc (.cells #[.slice ta n tc] 28)).heap.size w.heap.size lo w.heap.size ta tb n tc tq D :=
  ⟨row1 w _ _, hT.below (bel1 _ _), Or.inr (Nat.le_refl _), hw, by simp, hlo, by simp⟩
/-- .. or ahead of it. -/
theorem tv_early {w0 w : World} {xb lo : Nat} {u : Value} {ta : Option Addr} {tb n tc : Nat} {tq : Nat → SP} {D : Nat → SD} (hr : w.rowIs xb 28 1 (fun _ => u)) (hT : TabNew w lo w.heap.size ta tb n tq D) (hx : w0.heap.size ≤ xb) (hl : xb < lo) : TV (w.setCell ⟨xb, 0, none⟩ (.slice ta n tc)) w0.heap.size (w.setCell ⟨xb, 0, none⟩ (.slice ta n tc)).heap.size xb lo w.heap.size ta tb n tc tq D :=
  ⟨(hr.set 0 _).congr (fun i hi => by have : i = 0 := by omega
                                      subst this; rfl), hT.set (a := ⟨xb, 0, none⟩) hl _, Or.inl hl, hx, by have := hr.lt; simp; omega, by omega, by simp⟩

theorem cnt_nat (x : Nat) (D : Nat → SD) (n : Nat) : ¬ ((cnt x D n : Nat) : Int) < 0 := by omega

/-- Fit slots, of what the law has counted. -/
theorem fit_small {d : SD} (h : small d) (hlo : -9223372036854775808 ≤ d.own) (hhi : d.own ≤ 9223372036854775807) : Fit d :=
  ⟨by have := h.1; omega, by have := h.2.1; omega, hlo, hhi, fun i hi => by have := h.2.2.2 i hi; omega, by have := h.2.2.1; omega⟩

theorem t_eqTable (ao ao' : Option Addr) (b c b' c' n lo hi lo' hi' : Nat) (p p' : Nat → SP) (D : Nat → SD) (w : World) (h1 : TabNew w lo hi ao b n p D) (h2 : TabNew w lo' hi' ao' b' n p' D) (hF : ∀ i, i < n → Fit (D i)) (hn : n ≤ 1048577) :
    Calls Try.prog 12 #[.agg #[.slice ao n c], .agg #[.slice ao' n c']] w fun e w' => e = .returned (.bool true) ∧ Below w.heap.size w w' :=
  c10 ao ao' b 0 c b' 0 c' n p p' D w (h1.slots hF (by omega)) (h2.slots hF (by omega))

end Go.Proofs.Ytijgiingfgaakaa
