/-
  Scripts: the program's validEvent and add.
-/
import Derived.Test.YthmihmnagnibmaaDoorScrF
import Derived.Test.YthmihmnagnibmaaDoorPrN
import Derived.Deep.RegionLaw
import Derived.RangeFuncOwn
namespace Go.Proofs.YthmihmnagnibmaaDoor
open Go.RowKit

/-- What a reader leaves as it was: all that lies low but the script's box, and what is no cells. -/
structure KeepA (sb lo : Nat) (W W' : World) : Prop where
  os : W'.os = W.os
  tape : W'.tape = W.tape
  output : W'.output = W.output
  low : ∀ k, k < lo → k < W.heap.size → k ≠ sb → W'.heap[k]? = W.heap[k]?
  oth : KeepsOthers W W'
theorem KeepA.trans {sb lo : Nat} {A B C : World} (h : KeepA sb lo A B) (k : KeepA sb lo B C) : KeepA sb lo A C :=
  ⟨k.os.trans h.os, k.tape.trans h.tape, k.output.trans h.output, fun i h1 h2 h3 => (k.low i h1 (Nat.lt_of_lt_of_le h2 h.oth.size) h3).trans (h.low i h1 h2 h3), h.oth.trans k.oth⟩
theorem KeepA.below {sb lo : Nat} {A B : World} (h : Below A.heap.size A B) : KeepA sb lo A B :=
  ⟨h.os, h.tape, h.output, fun i _ h2 _ => h.block i h2, ⟨h.size, fun k _ hk _ => (h.block k (Array.getElem?_eq_some_iff.1 hk).1).trans hk⟩⟩

/-- What a reader of a line gives. -/
def RdPost (sb lo : Nat) (W : World) (ok : Bool) (wks cpy : Int) (evs : List EV) (e : Ending) (w' : World) : Prop :=
  e = .returned (.bool ok) ∧ KeepA sb lo W w' ∧ (ok = true → ∃ v, w'.rowIs sb 24 3 (t3 (.int .i64 wks) (.int .i64 cpy) v) ∧ OwnE w' lo v evs)

set_option maxRecDepth 100000 in
set_option maxHeartbeats 4000000 in
theorem v_named (k : Int) (hk : k = 1 ∨ k = 3) (nm : ByteArray) (wks : Int) (w : World) (_hs : nm.size ≤ 9223372036854775806) :
    Calls Tryd.prog 50 #[.agg #[.int .i64 k, .string nm, .string ⟨#[]⟩, .int .i64 0], .int .i64 wks] w fun e w' => e = .returned (.bool (decide (nm.size ≤ 12))) ∧ Below w.heap.size w w' := by
  have HB : Hid (Below w.heap.size w (w.alloc (.cells #[.int .i64 k, .string nm, .string ⟨#[]⟩, .int .i64 0] 36))) := bel1 _ _
  by_cases hn : nm.size ≤ 12
  · rw [decide_eq_true hn]
    rcases hk with rfl | rfl
    · go_enter Tryd.func50, Tryd.ntmps50
      go_wp2
      go_ret
      exact ⟨rfl, HB.out⟩
    · go_enter Tryd.func50, Tryd.ntmps50
      go_wp2
      go_ret
      exact ⟨rfl, HB.out⟩
  · rw [decide_eq_false hn]
    rcases hk with rfl | rfl
    · go_enter Tryd.func50, Tryd.ntmps50
      go_wp2
      go_ret
      exact ⟨rfl, HB.out⟩
    · go_enter Tryd.func50, Tryd.ntmps50
      go_wp2
      go_ret
      exact ⟨rfl, HB.out⟩

set_option maxRecDepth 100000 in
set_option maxHeartbeats 4000000 in
theorem v_edit (nm tx : ByteArray) (wks : Int) (w : World) (_hs : nm.size ≤ 9223372036854775806) (_ht : tx.size ≤ 9223372036854775806) :
    Calls Tryd.prog 50 #[.agg #[.int .i64 2, .string nm, .string tx, .int .i64 0], .int .i64 wks] w fun e w' => e = .returned (.bool (decide (nm.size ≤ 12 ∧ tx.size ≤ 1000))) ∧ Below w.heap.size w w' := by
  have HB : Hid (Below w.heap.size w (w.alloc (.cells #[.int .i64 2, .string nm, .string tx, .int .i64 0] 36))) := bel1 _ _
  by_cases hn : nm.size ≤ 12
  · by_cases hx : tx.size ≤ 1000
    · rw [decide_eq_true ⟨hn, hx⟩]
      go_enter Tryd.func50, Tryd.ntmps50
      go_wp2
      go_ret
      exact ⟨rfl, HB.out⟩
    · rw [decide_eq_false (fun h => hx h.2)]
      go_enter Tryd.func50, Tryd.ntmps50
      go_wp2
      go_ret
      exact ⟨rfl, HB.out⟩
  · rw [decide_eq_false (fun h => hn h.1)]
    go_enter Tryd.func50, Tryd.ntmps50
    go_wp2
    go_ret
    exact ⟨rfl, HB.out⟩

set_option maxRecDepth 100000 in
set_option maxHeartbeats 4000000 in
theorem v_pick (n wks : Int) (w : World) :
    Calls Tryd.prog 50 #[.agg #[.int .i64 4, .string ⟨#[]⟩, .string ⟨#[]⟩, .int .i64 n], .int .i64 wks] w fun e w' => e = .returned (.bool (decide (0 ≤ n ∧ n < wks))) ∧ Below w.heap.size w w' := by
  have HB : Hid (Below w.heap.size w (w.alloc (.cells #[.int .i64 4, .string ⟨#[]⟩, .string ⟨#[]⟩, .int .i64 n] 36))) := bel1 _ _
  by_cases hn : 0 ≤ n
  · by_cases hx : n < wks
    · rw [decide_eq_true ⟨hn, hx⟩]
      go_enter Tryd.func50, Tryd.ntmps50
      go_wp2
      go_ret
      exact ⟨rfl, HB.out⟩
    · rw [decide_eq_false (fun h => hx h.2)]
      go_enter Tryd.func50, Tryd.ntmps50
      go_wp2
      go_ret
      exact ⟨rfl, HB.out⟩
  · rw [decide_eq_false (fun h => hn h.1)]
    go_enter Tryd.func50, Tryd.ntmps50
    go_wp2
    go_ret
    exact ⟨rfl, HB.out⟩

/-- The script's box behind an append. -/
theorem add_step {w Y w3 : World} {sb lo m cap2 gg cap3 : Nat} {wks cpy : Int} {oa : Option Addr} {evs : List EV} {e : EV} {o : Obj} (hr : w.rowIs sb 24 3 (t3 (.int .i64 wks) (.int .i64 cpy) (.slice oa m cap2))) (hw : OwnE w lo (.slice oa m cap2) evs) (hlo : sb < lo) (hlw : lo ≤ w.heap.size) (hm : m = evs.length) (hY : Below w.heap.size w Y)
    (ho : w3.ownsRow lo 36 4 (.slice (some ⟨gg, 0, none⟩) (m + 1) cap3) (m + 1) (evcells evs ++ evc e)) (hg : (Y.alloc o).grownBy w3 (Value.slice oa m cap2).ownBlock) :
    RdPost sb lo w true wks cpy (evs ++ [e]) (.returned (.bool true)) (w3.setCell ⟨sb, 2, none⟩ (.slice (some ⟨gg, 0, none⟩) (m + 1) cap3)) := by
  have hYs := hY.size
  have hgs := hg.size
  have blk : ∀ x, x < lo → w3.heap[x]? = w.heap[x]? := fun x hx2 => by
    rw [hg.block x (by simp; omega) (fun e => by have := (hw.lt x e.symm).1; omega), Below.heap_alloc _ _ _ (by omega), hY.block x (by omega)]
  have hgg := (ho.lt gg rfl).1
  refine ⟨rfl, ⟨hg.os.trans hY.os, hg.tape.trans hY.tape, hg.output.trans hY.output, fun x h1 _ h3 => ?_, ⟨by simp at hgs ⊢; omega, fun k ob hk hc => ?_⟩⟩, fun _ => ⟨.slice (some ⟨gg, 0, none⟩) (m + 1) cap3, ?_, ?_⟩⟩
  · rw [Below.heap_setCell _ _ _ _ (by show x ≠ sb; omega), blk x h1]
  · have hlt := (Array.getElem?_eq_some_iff.1 hk).1
    have hne : k ≠ sb := fun e => by
      subst e
      obtain ⟨cs, hcs, _, _⟩ := hr
      rw [hk] at hcs
      cases Option.some.inj hcs
      cases hc
    rw [Below.heap_setCell _ _ _ _ (by show k ≠ sb; exact hne)]
    rw [hg.block k (by simp; omega) (fun e => ?_), Below.heap_alloc _ _ _ (by omega), hY.block k hlt, hk]
    rcases hw.2 with ⟨hv, _⟩ | ⟨g', cp, cur, hv, _, hh, _⟩
    · rw [hv] at e; cases e
    · rw [hv] at e
      have e2 : k = g' := Option.some.inj e
      rw [← e2, hk] at hh
      cases Option.some.inj hh
      cases hc
  · exact ((hr.of_block (blk sb hlo)).set 2 _).congr (fun i hi => by
      match i, hi with
      | 0, _ => rfl
      | 1, _ => rfl
      | 2, _ => rfl)
  · unfold OwnE
    have e1 : (evs ++ [e]).length = m + 1 := by rw [List.length_append, hm]; rfl
    have e2 : evcells (evs ++ [e]) = evcells evs ++ evc e := by unfold evcells; rw [List.flatMap_append]; simp
    rw [e1, e2]
    obtain ⟨k1, k2⟩ := ho
    refine ⟨k1, ?_⟩
    rcases k2 with ⟨hv, _⟩ | ⟨g', cp, cur, hv, hb, hh, r⟩
    · cases hv
    · have : g' = gg := by simp only [Value.slice.injEq, Option.some.injEq, Addr.mk.injEq] at hv; exact hv.1.1.symm
      subst this
      exact Or.inr ⟨g', cp, cur, hv, hb, (Below.heap_setCell _ _ _ _ (by show g' ≠ sb; omega)).trans hh, r⟩

end Go.Proofs.YthmihmnagnibmaaDoor
