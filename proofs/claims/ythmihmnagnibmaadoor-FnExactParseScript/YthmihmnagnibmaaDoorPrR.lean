/-
  A range over an iterator that keeps its state in one cell of its own.
-/
import Derived.Test.YthmihmnagnibmaaDoorPrL
import Derived.RangeFuncNested
import Derived.RangeFuncBound
import Derived.RangeFuncCalls
import Derived.RangeFuncLeaves
namespace Go.Proofs.YthmihmnagnibmaaDoor
open Go Go.RowKit

/-- How the body of a round is left: it goes on, or it returns. -/
def roundEnd (B xb : Nat) (I Ix : Nat → World → Prop) (k : Nat) (W : World) : Exit → Act → World → Prop
  | .normal, _, W' => KeepsFrom B W W' ∧ W'.heap[xb]? = W.heap[xb]? ∧ I k W'
  | .ret, _, W' => KeepsFrom B W W' ∧ Ix k W'
  | _, _, _ => False

/-- An iterator that writes the cell xb alone and hands over at most N texts, the k-th one as V says. -/
def SeqC (n : Nat) (P : Program) (gf : Nat) (lb : Array Value) (xb : Nat) (s : ByteArray) (V : Nat → ByteArray → Prop) (N : Nat) : Prop :=
  ∀ (l : Nat) (J Jx : Nat → World → Prop) (W : World), W.cell? ⟨xb, 0, none⟩ = some (.string s) → W.frozen? ⟨xb, 0, none⟩ = false →
    (∀ k W v, J k W → J k (W.setCell ⟨xb, 0, none⟩ v)) → (∀ k W m, J k W → J k (W.drewN m)) →
    (∀ k x W1, J k W1 → k < N → V k x → YieldAt Fence.wide (n - 1) P l #[.string x] W1 fun e W' =>
      (e = .returned (.bool true) ∧ J (k + 1) W' ∧ W'.heap[xb]? = W1.heap[xb]?) ∨ (e = .returned (.bool false) ∧ k < N ∧ Jx (k + 1) W')) →
    J 0 W →
    CallsIn Fence.wide n P gf (#[.func (.yield l) #[] #[]] ++ lb) W fun e W' => (∃ v, e = .returned v) ∧ (J N W' ∨ ∃ k, k < N ∧ Jx (k + 1) W')

theorem own_drew {B : Nat} {I : Nat → World → Prop} (hI : OwnFrom B I) (k : Nat) (W : World) (m : Nat) (h : I k W) : I k (W.drewN m) :=
  hI k W _ none h ⟨rfl, rfl, rfl, Nat.le_refl _, fun _ _ _ => rfl⟩ (fun r e => by cases e)

theorem range_cell {P : Program} {g : Operand} {ps : Array Tmp} {assign body : Code} {Q : Exit → Act → World → Prop} {a : Act} {w : World} {n : Nat} (h1 : 1 ≤ n)
    {gf : Nat} {lb : Array Value} (hg : a.eval g = .func (.func gf) #[] lb) (eg : ∀ args w, (callFunc gf args).run P w = .ok (.enter gf args) w)
    {s : ByteArray} {V : Nat → ByteArray → Prop} {N xb : Nat} (hseq : SeqC (n - 1) P gf lb xb s V N) (hxb : xb < w.heap.size) (hc : w.cell? ⟨xb, 0, none⟩ = some (.string s)) (hf : w.frozen? ⟨xb, 0, none⟩ = false) (hps : ps.size = 1)
    (I Ix : Nat → World → Prop) (hI : OwnFrom w.heap.size I) (hIx : OwnFrom w.heap.size Ix) (hIs : ∀ k W v, I k W → I k (W.setCell ⟨xb, 0, none⟩ v)) (h0 : I 0 w) (a₁ : ByteArray → Act)
    (hassign : ∀ (l : Nat) (x : ByteArray) (W : World) (K : Act → World → Prop), K (a₁ x) W →
      assign.wpIn (Fence.wide.inRound l) (n - 1 - 1) P (Exit.then K (fun _ _ _ => False)) { tmps := (ps.zip #[Value.string x]).foldl (fun t (p, v) => t.setIfInBounds p v) a.tmps, defers := [] } W)
    (hbody : ∀ (l k : Nat) (x : ByteArray) (W : World), I k W → k < N → V k x → body.wpIn (Fence.wide.inRound l) (n - 1 - 1) P (roundEnd w.heap.size xb I Ix (k + 1) W) (a₁ x) W)
    (hdone : ∀ (D : Nat) (W : World), w.heap.size ≤ D → I N W → W.heap[D]? = some (.deferred (some [])) → Q .normal { a with defers := { target := .collected D, args := #[] } :: a.defers } W)
    (hstop : ∀ (D k : Nat) (W : World), w.heap.size ≤ D → k < N → Ix (k + 1) W → W.heap[D]? = some (.deferred (some [])) → Code.ret.wpIn Fence.wide n P Q { a with defers := { target := .collected D, args := #[] } :: a.defers } W) :
    (Code.rangeFunc g ps assign body).wpIn Fence.wide n P Q a w := by
  refine wpIn_rangeFunc ?_
  intro fn hfn
  obtain ⟨lp, hlp⟩ : ∃ lp : LoopState → Option Code → Loop, lp = fun st pe => { state := st, pending := pe, fn, tmps := a.tmps, params := ps, assign, body, defers := w.heap.size } := ⟨_, rfl⟩
  obtain ⟨b, hb⟩ : ∃ b, b = w.heap.size := ⟨_, rfl⟩
  obtain ⟨W1, hW1⟩ : ∃ W1, W1 = (w.alloc (.deferred (some []))).alloc (.loop (lp .ready none)) := ⟨_, rfl⟩
  have hL : W1.heap[b + 1]? = some (.loop (lp .ready none)) := by
    have := World.alloc_heap_new (w.alloc (.deferred (some []))) (.loop (lp .ready none))
    rw [World.size_alloc] at this
    rw [hW1, hb]; exact this
  have hD : W1.heap[b]? = some (.deferred (some [])) := by
    rw [hW1, hb]; exact (Below.heap_alloc _ _ _ (by simp)).trans (World.alloc_heap_new w _)
  have hI1 : I 0 W1 := by rw [hW1]; exact hI.alloc _ (hI.alloc _ h0)
  have hb1 : Below w.heap.size w W1 := by rw [hW1]; exact ((Below.refl _ w).alloc (Nat.le_refl _) _).alloc (by simp) _
  refine ⟨b + 1, [{ target := .collected b, args := #[] }], W1, { target := .fn (.func gf) lb, args := #[.func (.yield (b + 1)) #[] #[]] }, W1, gf,
    #[.func (.yield (b + 1)) #[] #[]] ++ lb, W1, ?_, ?_, fun _ _ => trivial, ?_, fun _ => h1, ?_⟩
  · rw [hW1, hlp, hb]; exact run_enterLoop_outer _ _ _ _ _
  · simp only [resolve, hg]
    simp [go_sem]
  · simp [invoke, go_sem, eg]
  · refine (hseq (b + 1)
      (fun k W => I k W ∧ W.heap[b + 1]? = some (.loop (lp .ready none)) ∧ W.heap[b]? = some (.deferred (some [])))
      (fun k W => Ix k W ∧ W.heap[b + 1]? = some (.loop (lp .done (some .ret))) ∧ W.heap[b]? = some (.deferred (some [])))
      W1 ((World.cell?_of_block (a := ⟨xb, 0, none⟩) (hb1.block xb hxb)).trans hc) ((World.frozen?_of_block (a := ⟨xb, 0, none⟩) (hb1.block xb hxb)).trans hf)
      (fun k W v h => ⟨hIs k W v h.1, (Below.heap_setCell _ _ _ _ (by show b + 1 ≠ xb; omega)).trans h.2.1, (Below.heap_setCell _ _ _ _ (by show b ≠ xb; omega)).trans h.2.2⟩)
      (fun k W m h => ⟨own_drew hI k W m h.1, h.2⟩)
      ?_ ⟨hI1, hL, hD⟩).mono ?_
    · rintro k x W ⟨hi, hl, hd⟩ hk hv
      have hlt : b + 1 < W.heap.size := (Array.getElem?_eq_some_iff.1 hl).1
      have hy := run_yield (P := P) (args := #[Value.string x]) hl (by rw [hlp]; exact hps.symm)
      rw [hlp] at hy
      refine ⟨fn, _, assign, body, hy, roundIn_of_wpIn hfn (hassign _ x W _ ⟨_, run_beginRound hl (by rw [hlp]), ?_⟩)⟩
      obtain ⟨Wb, hWb⟩ : ∃ Wb, Wb = W.putObj (b + 1) (.loop { lp .ready none with state := .busy }) := ⟨_, rfl⟩
      have hl2 : Wb.heap[b + 1]? = some (.loop { lp .ready none with state := .busy }) := by rw [hWb]; exact World.putObj_heap_same hlt
      have hd2 : Wb.heap[b]? = some (.deferred (some [])) := by rw [hWb]; exact (World.putObj_heap_other (by omega)).trans hd
      have hx2 : Wb.heap[xb]? = W.heap[xb]? := by rw [hWb]; exact World.putObj_heap_other (by omega)
      have hi2 : I k Wb := by rw [hWb]; exact hI.putObj _ hi (by omega) hl rfl
      rw [← hWb]
      refine wpIn_mono (hbody _ k x Wb hi2 hk hv) ?_
      rintro e a3 W3 hp
      cases e with
      | normal =>
        obtain ⟨k3, x3, i3⟩ := hp
        have hl3 := k3.same _ _ (by omega) hl2 rfl
        have hd3 := k3.same _ _ (by omega) hd2 rfl
        have hr := run_endRound (P := P) none hl3
        refine ⟨_, _, hr, .inl ⟨rfl, ⟨hI.putObj _ i3 (by omega) hl3 rfl, ?_, (World.putObj_heap_other (by omega)).trans hd3⟩, ?_⟩⟩
        · rw [World.putObj_heap_same (Array.getElem?_eq_some_iff.1 hl3).1, hlp]; rfl
        · rw [World.putObj_heap_other (by omega), x3, hx2]
      | ret =>
        obtain ⟨k3, i3⟩ := hp
        have hl3 := k3.same _ _ (by omega) hl2 rfl
        have hd3 := k3.same _ _ (by omega) hd2 rfl
        have hr := run_endRound (P := P) (some .ret) hl3
        refine ⟨_, _, hr, .inr ⟨rfl, hk, hIx.putObj _ i3 (by omega) hl3 rfl, ?_, (World.putObj_heap_other (by omega)).trans hd3⟩⟩
        rw [World.putObj_heap_same (Array.getElem?_eq_some_iff.1 hl3).1, hlp]; rfl
      | exit id => exact hp.elim
      | goto t => exact hp.elim
      | panic ch => exact hp.elim
      | outgrown => exact hp.elim
    · rintro e W2 ⟨⟨v, rfl⟩, (⟨hi, hl, hd⟩ | ⟨k, hk, hi, hl, hd⟩)⟩
      · refine ⟨none, _, by have := run_endLoop (P := P) hl (by rw [hlp]; simp); rw [hlp] at this; exact this, ?_⟩
        exact hdone _ _ (by omega) (hI.putObj _ hi (by omega) hl rfl) ((World.putObj_heap_other (by omega)).trans hd)
      · refine ⟨some .ret, _, by have := run_endLoop (P := P) hl (by rw [hlp]; simp); rw [hlp] at this; exact this, ?_⟩
        exact hstop _ k _ (by omega) hk (hIx.putObj _ hi (by omega) hl rfl) ((World.putObj_heap_other (by omega)).trans hd)

end Go.Proofs.YthmihmnagnibmaaDoor
