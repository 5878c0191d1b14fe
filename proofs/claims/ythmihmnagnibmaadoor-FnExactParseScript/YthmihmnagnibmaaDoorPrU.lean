/-
  The program's ParseScript, walked.
-/
import Derived.Test.YthmihmnagnibmaaDoorPrS
namespace Go.Proofs.YthmihmnagnibmaaDoor
open Go Go.RowKit Go.Shelf
attribute [local go_sem] Oper.semAt_some

theorem k_trim (x ln : ByteArray) (w : World) (hs : x.size ≤ 1048576) (h : trimNl x = ln) :
    Calls Tryd.prog 15 #[.string x, .string ⟨#[10]⟩] w fun e w' => e = .returned (.string ln) ∧ w' = w :=
  (Tryd.strings_TrimSuffix x ⟨#[10]⟩ w (by omega)).mono fun e w' ⟨he, hw⟩ => ⟨by rw [he, ← h]; rfl, hw⟩

/-- The reading of a line at its place. -/
theorem p_rl {sb lo g k : Nat} {s : ByteArray} {w : World} (h : Sc sb lo (wksK s k) (cpyK s k) (evsK s k) w) (hg : goodK s k) (hs : (lineAt s k).size ≤ 1048576) (hk : Kinds w g (nAt k) (kwAt k) (kfAt k)) :
    Calls Tryd.prog 14 #[.pointer (some ⟨sb, 0, none⟩), .string (lineAt s k), .slice (some ⟨g, 0, none⟩) (nAt k) (nAt k)] w fun e w' => RdPost sb lo w (okAt k (lineAt s k) (wksK s k)) (wksK s (k + 1)) (cpyK s (k + 1)) (evsK s (k + 1)) e w' := by
  have key : Calls Tryd.prog 14 #[.pointer (some ⟨sb, 0, none⟩), .string (lineAt s k), .slice (some ⟨g, 0, none⟩) (nAt k) (nAt k)] w fun e w' => RdPost sb lo w (okAt k (lineAt s k) (wksK s k)) (wkAt k (lineAt s k) (wksK s k)) (cpAt k (lineAt s k) (cpyK s k)) (evAt k (lineAt s k) (wksK s k) (evsK s k)) e w' := by
    rcases Nat.lt_or_ge k 2 with h2 | h2
    · rcases Nat.lt_or_ge k 1 with h1 | h1
      · have : k = 0 := by omega
        subst this
        exact p_l0 h _ hs hk
      · have : k = 1 := by omega
        subst this
        exact p_l1 h _ hs hk
    · obtain ⟨q1, q2⟩ := good_wks hg (by omega)
      exact p_lE h q1 q2 h2 _ hs hk
  rw [wks_step, cpy_step, evs_step] at key
  exact key

/-- A reader's end, as the loop sees it. -/
theorem pj_read {w W WX w' : World} {s : ByteArray} {b0 b1 sb ib lo k : Nat} (h : PJ w s b0 b1 sb ib lo k W) (hX : Below W.heap.size W WX) {ok : Bool} {e : Ending} (hp : RdPost sb lo WX ok (wksK s (k + 1)) (cpyK s (k + 1)) (evsK s (k + 1)) e w')
    (l0 : b0 < sb) (l1 : b1 < sb) (l2 : sb < ib) (l3 : ib < lo) (l4 : w.heap.size ≤ b0) :
    KeepA sb lo W w' ∧ w'.rowIs b0 24 3 z3 ∧ w'.rowIs b1 3 1 (fun _ => .int .i64 0) ∧ w'.rowIs ib 3 1 (fun _ => .int .i64 (k : Int)) ∧ Below w.heap.size w w' ∧ lo ≤ w'.heap.size := by
  have hK : KeepA sb lo W w' := (KeepA.below hX).trans hp.2.1
  have hl := h.lw
  refine ⟨hK, h.r0.of_block (hK.low b0 (by omega) h.r0.lt (by omega)), h.r1.of_block (hK.low b1 (by omega) h.r1.lt (by omega)), h.ix.of_block (hK.low ib (by omega) h.ix.lt (by omega)), ?_, Nat.le_trans hl hK.oth.size⟩
  have hb := h.b
  exact ⟨hK.os.trans hb.os, hK.tape.trans hb.tape, hK.output.trans hb.output, Nat.le_trans hb.size hK.oth.size, fun i hi => (hK.low i (by omega) (Nat.lt_of_lt_of_le hi hb.size) (by omega)).trans (hb.block i hi)⟩
theorem pj_sc {w W : World} {s : ByteArray} {b0 b1 sb ib lo k : Nat} (h : PJ w s b0 b1 sb ib lo k W) (hv : Vars w) (l : sb < lo) (hk : k ≤ 1048576) : Sc sb lo (wksK s k) (cpyK s k) (evsK s k) W :=
  ⟨h.st, l, h.lw, by rw [evsK_len]; omega, hv.below h.b⟩

set_option maxRecDepth 100000 in
/-- The end of ParseScript: the loop's deferred calls are none; the results are read out of their boxes. -/
theorem p_fin {w V : World} {b0 b1 D : Nat} {sc : SC × Int} {x y c : Int} {v : Value} {evs : List EV} {tmps : Array Value} (hsc : sc = (⟨x, y, evs⟩, c)) (hr0 : V.rowIs b0 24 3 (t3 (.int .i64 x) (.int .i64 y) v)) (hr1 : V.rowIs b1 3 1 (fun _ => .int .i64 c)) (h1 : b1 = b0 + 1)
    (ho : OwnE V w.heap.size v evs) (hb : Below w.heap.size w V) (hD : w.heap.size ≤ D) (hK : V.heap[D]? = some (.deferred (some []))) (t2 : tmps[2]?.getD undef = .pointer (some ⟨b0, 0, none⟩)) (t3' : tmps[3]?.getD undef = .pointer (some ⟨b1, 0, none⟩)) :
    bodyPostM Fence.wide 8 Tryd.prog Tryd.f5 (fun e w' => ScPost w sc e w') Exit.ret { tmps := tmps, defers := [{ target := Target.collected D, args := #[] }] } V := by
  have hg := grownBy_putObj' V D (.deferred none)
  have hr : ∀ r, some D = some r → ∃ o : Obj, V.heap[r]? = some o ∧ o.isCells = false := fun r e => by cases e; exact ⟨_, hK, rfl⟩
  refine ⟨by simp, .inl ⟨_, _, rfl, run_takeDeferred hK, ?_⟩⟩
  subst h1
  refine ⟨_, res5 _ _ b0 x y c v t2 t3' (row_grown hr0 hg hr) (row_grown hr1 hg hr), ?_⟩
  subst hsc
  exact ⟨v, rfl, own_grown ho hg hr, hb.grown hg hb.size (fun r e => by cases e; exact hD)⟩

theorem out_rows {W : World} {b0 b1 : Nat} {f g : Nat → Value} (x y c : Int) (v : Value) (h0 : W.rowIs b0 24 3 f) (h1 : W.rowIs b1 3 1 g) (hn : b0 ≠ b1) :
    ((((W.setCell ⟨b0, 0, none⟩ (.int .i64 x)).setCell ⟨b0, 1, none⟩ (.int .i64 y)).setCell ⟨b0, 2, none⟩ v).setCell ⟨b1, 0, none⟩ (.int .i64 c)).rowIs b0 24 3 (t3 (.int .i64 x) (.int .i64 y) v) ∧
    ((((W.setCell ⟨b0, 0, none⟩ (.int .i64 x)).setCell ⟨b0, 1, none⟩ (.int .i64 y)).setCell ⟨b0, 2, none⟩ v).setCell ⟨b1, 0, none⟩ (.int .i64 c)).rowIs b1 3 1 (fun _ => .int .i64 c) := by
  constructor
  · exact row_set ((((h0.set 0 (.int .i64 x)).set 1 (.int .i64 y)).set 2 v).congr (fun i hi => by
      match i, hi with
      | 0, _ => rfl
      | 1, _ => rfl
      | 2, _ => rfl)) hn
  · exact ((row_set (row_set (row_set h1 (Ne.symm hn)) (Ne.symm hn)) (Ne.symm hn)).set 0 (.int .i64 c)).congr (fun i hi => by
      match i, hi with
      | 0, _ => rfl)
theorem out_other {W : World} {b0 b1 k : Nat} (a b d : Value) (v : Value) (h0 : k ≠ b0) (h1 : k ≠ b1) :
    ((((W.setCell ⟨b0, 0, none⟩ a).setCell ⟨b0, 1, none⟩ b).setCell ⟨b0, 2, none⟩ v).setCell ⟨b1, 0, none⟩ d).heap[k]? = W.heap[k]? := by
  rw [Below.heap_setCell _ _ _ _ (by show k ≠ b1; exact h1), Below.heap_setCell _ _ _ _ (by show k ≠ b0; exact h0), Below.heap_setCell _ _ _ _ (by show k ≠ b0; exact h0), Below.heap_setCell _ _ _ _ (by show k ≠ b0; exact h0)]
theorem out_below {w W : World} {b0 b1 : Nat} (a b d : Value) (v : Value) (h : Below w.heap.size w W) (h0 : w.heap.size ≤ b0) (h1 : w.heap.size ≤ b1) :
    Below w.heap.size w ((((W.setCell ⟨b0, 0, none⟩ a).setCell ⟨b0, 1, none⟩ b).setCell ⟨b0, 2, none⟩ v).setCell ⟨b1, 0, none⟩ d) :=
  (((h.setCell (p := ⟨b0, 0, none⟩) h0 _).setCell (p := ⟨b0, 1, none⟩) h0 _).setCell (p := ⟨b0, 2, none⟩) h0 _).setCell (p := ⟨b1, 0, none⟩) h1 _

theorem wrap_k {k : Int} (h0 : 0 ≤ k) (h1 : k ≤ 1048576) : IntKind.i64.wrap (1 + k) = 1 + k := by
  simp only [IntKind.wrap, IntKind.signed, IntKind.bits]
  simp
  omega
/-- Where a line ends the reading. -/
theorem pj_stop {w W V : World} {s : ByteArray} {b0 b1 lo k : Nat} (hK : KeepsOthers W V) (r0 : V.rowIs b0 24 3 z3) (r1 : V.rowIs b1 3 1 (fun _ => .int .i64 0)) (hb : Below w.heap.size w V) (hsc : scOf s = (scz, (k : Int) + 1)) (h0 : w.heap.size ≤ b0) (h1 : b1 = b0 + 1) (c : Int) (hc : c = 1 + (k : Int)) (V' : World)
    (e : V'.heap = ((((V.setCell ⟨b0, 0, none⟩ (.int .i64 0)).setCell ⟨b0, 1, none⟩ (.int .i64 0)).setCell ⟨b0, 2, none⟩ (.slice none 0 0)).setCell ⟨b1, 0, none⟩ (.int .i64 c)).heap) (eo : V'.os = V.os) (et : V'.tape = V.tape) (eu : V'.output = V.output) :
    KeepsFrom lo W V' ∧ PX w s b0 b1 (k + 1) V' := by
  have hr := out_rows 0 0 c (.slice none 0 0) r0 r1 (by omega)
  have hbl := out_below (.int .i64 0) (.int .i64 0) (.int .i64 c) (.slice none 0 0) hb h0 (by omega : w.heap.size ≤ b1)
  have hk2 := hK.trans ((((KeepsOthers.setCell V ⟨b0, 0, none⟩ (.int .i64 0)).trans (KeepsOthers.setCell _ ⟨b0, 1, none⟩ (.int .i64 0))).trans (KeepsOthers.setCell _ ⟨b0, 2, none⟩ (.slice none 0 0))).trans (KeepsOthers.setCell _ ⟨b1, 0, none⟩ (.int .i64 c)))
  refine ⟨⟨by rw [e]; exact hk2.size, fun i o _ hi ho => by rw [e]; exact hk2.same i o hi ho⟩, hr.1.of_block (by rw [e]), ?_, ⟨eo.trans hb.os, et.trans hb.tape, eu.trans hb.output, by rw [e]; exact hbl.size, fun i hi => by rw [e]; exact hbl.block i hi⟩, ?_⟩
  · have e2 : ((k + 1 : Nat) : Int) = c := by omega
    rw [e2]; exact hr.2.of_block (by rw [e])
  · rw [hsc]; congr 1
/-- Where it goes on. -/
theorem pj_next {w W V : World} {s : ByteArray} {b0 b1 sb ib lo xb k : Nat} (hK : KeepA sb lo W V) (hst : ∃ v, V.rowIs sb 24 3 (t3 (.int .i64 (wksK s (k + 1))) (.int .i64 (cpyK s (k + 1))) v) ∧ OwnE V lo v (evsK s (k + 1))) (r0 : V.rowIs b0 24 3 z3) (r1 : V.rowIs b1 3 1 (fun _ => .int .i64 0)) (hi : V.rowIs ib 3 1 (fun _ => .int .i64 (k : Int))) (hb : Below w.heap.size w V) (hl : lo ≤ V.heap.size) (hg : goodK s (k + 1)) (hx : xb < W.heap.size)
    (ha : b0 = w.heap.size ∧ b1 = b0 + 1 ∧ sb = b0 + 2 ∧ ib = b0 + 3 ∧ xb = b0 + 4 ∧ lo = b0 + 5) (c : Int) (hc : c = (k : Int) + 1) (V' : World) (e : V'.heap = (V.setCell ⟨ib, 0, none⟩ (.int .i64 c)).heap) (eo : V'.os = V.os) (et : V'.tape = V.tape) (eu : V'.output = V.output) :
    KeepsFrom lo W V' ∧ V'.heap[xb]? = W.heap[xb]? ∧ PJ w s b0 b1 sb ib lo (k + 1) V' := by
  have hk2 := hK.oth.trans (KeepsOthers.setCell V ⟨ib, 0, none⟩ (.int .i64 c))
  have ob : ∀ j, j ≠ ib → V'.heap[j]? = V.heap[j]? := fun j hj => by rw [e]; exact Below.heap_setCell _ _ _ _ (by show j ≠ ib; exact hj)
  have hbl := hb.setCell (p := ⟨ib, 0, none⟩) (by show w.heap.size ≤ ib; omega) (.int .i64 c)
  refine ⟨⟨by rw [e]; exact hk2.size, fun i o _ hi ho => by rw [e]; exact hk2.same i o hi ho⟩, ?_, ?_, ?_, r0.of_block (ob _ (by omega)), r1.of_block (ob _ (by omega)), ⟨eo.trans hb.os, et.trans hb.tape, eu.trans hb.output, by rw [e]; exact hbl.size, fun i hi => by rw [e]; exact hbl.block i hi⟩, by rw [e]; simpa using hl, hg⟩
  · rw [ob _ (by omega), hK.low xb (by omega) hx (by omega)]
  · obtain ⟨v, s1, s2⟩ := hst
    refine ⟨v, s1.of_block (ob _ (by omega)), ?_⟩
    have := own_setE (a := ⟨ib, 0, none⟩) (u := .int .i64 c) s2 (Nat.le_refl _) (by show ib < lo; omega)
    obtain ⟨k1, k2⟩ := this
    refine ⟨k1, ?_⟩
    rcases k2 with k2 | ⟨g', cp, cur, hv, hbb, hh, r⟩
    · exact Or.inl k2
    · exact Or.inr ⟨g', cp, cur, hv, hbb, by rw [e]; exact hh, r⟩
  · have e2 : ((k + 1 : Nat) : Int) = c := by omega
    rw [e2]
    exact ((hi.set 0 (.int .i64 c)).congr (fun i hi => by
      match i, hi with
      | 0, _ => rfl)).of_block (by rw [e])

set_option maxRecDepth 100000 in
set_option maxHeartbeats 4000000 in
theorem p_parse (s : ByteArray) (w : World) (hs : s.size ≤ 1048576) (hv : Vars w) : Calls Tryd.prog 5 #[.string s] w fun e w' => ScPost w (scOf s) e w' := by
  by_cases hbig : 40000 < s.size
  · have HL : Hid (scOf s = (scz, 1)) := sc_long hbig
    clear hv
    have hb2 : (40000 : Int) < (s.size : Int) := by omega
    refine (callsIn_wide (n := 8)).1 ?_
    refine callsIn_of_wp_marks Tryd.func5 rfl trivial ?_ rfl
    simp only [Tryd.ntmps5, List.size_toArray, List.length_cons, List.length_nil, Nat.reduceAdd, Nat.reduceSub, Array.replicate_succ, Array.replicate_zero, List.push_toArray, List.append_toArray, List.nil_append, List.cons_append]
    gi_wp2
    refine ⟨_, res5 _ _ w.heap.size 0 0 1 (.slice none 0 0) rfl rfl ((rowt3 w _ _ _ _).alloc _) ?_, ?_⟩
    · have := World.rowIs_alloc (w.alloc (.cells #[.int .i64 0, .int .i64 0, .slice none 0 0] 24)) #[.int .i64 1] 3 (fun _ => .int .i64 1) (fun i hi => by
        have : i = 0 := by simp at hi; omega
        subst this; rfl)
      rw [World.size_alloc] at this
      exact this
    · exact sc_early HL.out ((bel1 w _).alloc (by simp) _)
  · have hbs : s.size ≤ 40000 := by omega
    have hb2 : ¬ (40000 : Int) < (s.size : Int) := by omega
    have hbd : decide ((40000 : Int) < (s.size : Int)) = false := decide_eq_false hb2
    have C13 : Hid (∀ W, Calls Tryd.prog 13 #[.string s] W fun e w' => e = .returned (.func (.func 23) #[] #[.pointer (some ⟨W.heap.size, 0, none⟩)]) ∧ w' = W.alloc (.cells #[.string s] 9)) := fun W => p_lines s W
    have HV : Hid (Vars w ∧ s.size ≤ 40000 ∧ s.size ≤ 1048576) := ⟨hv, hbs, hs⟩
    obtain ⟨w1, hw1⟩ : ∃ w1, w1 = w.alloc (.cells #[.int .i64 0, .int .i64 0, .slice none 0 0] 24) := ⟨_, rfl⟩
    obtain ⟨w2, hw2⟩ : ∃ w2, w2 = w1.alloc (.cells #[.int .i64 0] 3) := ⟨_, rfl⟩
    obtain ⟨w3, hw3⟩ : ∃ w3, w3 = w2.alloc (.cells #[.int .i64 0, .int .i64 0, .slice none 0 0] 24) := ⟨_, rfl⟩
    obtain ⟨w4, hw4⟩ : ∃ w4, w4 = w3.alloc (.cells #[.int .i64 0] 3) := ⟨_, rfl⟩
    obtain ⟨W0, hW0⟩ : ∃ W0, W0 = w4.alloc (.cells #[.string s] 9) := ⟨_, rfl⟩
    have z1 : w1.heap.size = w.heap.size + 1 := by rw [hw1]; simp
    have z2 : w2.heap.size = w.heap.size + 1 + 1 := by rw [hw2, World.size_alloc, z1]
    have z3' : w3.heap.size = w.heap.size + 1 + 1 + 1 := by rw [hw3, World.size_alloc, z2]
    have z4 : w4.heap.size = w.heap.size + 1 + 1 + 1 + 1 := by rw [hw4, World.size_alloc, z3']
    have z5 : W0.heap.size = w.heap.size + 1 + 1 + 1 + 1 + 1 := by rw [hW0, World.size_alloc, z4]
    obtain ⟨b0, e0⟩ : ∃ b0, b0 = w.heap.size := ⟨_, rfl⟩
    obtain ⟨b1, e1⟩ : ∃ b1, b1 = w.heap.size + 1 := ⟨_, rfl⟩
    obtain ⟨sb, e2⟩ : ∃ sb, sb = w.heap.size + 1 + 1 := ⟨_, rfl⟩
    obtain ⟨ib, e3⟩ : ∃ ib, ib = w.heap.size + 1 + 1 + 1 := ⟨_, rfl⟩
    obtain ⟨xb, e4⟩ : ∃ xb, xb = w.heap.size + 1 + 1 + 1 + 1 := ⟨_, rfl⟩
    obtain ⟨lo, e5⟩ : ∃ lo, lo = W0.heap.size := ⟨_, rfl⟩
    have bl1 : Below w1.heap.size w1 w2 := by rw [hw2]; exact bel1 _ _
    have bl2 : Below w2.heap.size w2 w3 := by rw [hw3]; exact bel1 _ _
    have bl3 : Below w3.heap.size w3 w4 := by rw [hw4]; exact bel1 _ _
    have bl4 : Below w4.heap.size w4 W0 := by rw [hW0]; exact bel1 _ _
    have q0 : W0.rowIs b0 24 3 z3 := by
      have r : w1.rowIs b0 24 3 z3 := by rw [hw1, e0]; exact rowt3 _ _ _ _ _
      exact (((r.of_block (bl1.block _ r.lt)).of_block (bl2.block _ (by omega))).of_block (bl3.block _ (by omega))).of_block (bl4.block _ (by omega))
    have one : ∀ (W : World), (W.alloc (.cells #[.int .i64 0] 3)).rowIs W.heap.size 3 1 (fun _ => .int .i64 0) := fun W => World.rowIs_alloc W #[.int .i64 0] 3 (fun _ => .int .i64 0) (fun i hi => by
        have : i = 0 := by simp at hi; omega
        subst this; rfl)
    have q1 : W0.rowIs b1 3 1 (fun _ => .int .i64 0) := by
      have r : w2.rowIs b1 3 1 (fun _ => .int .i64 0) := by rw [hw2, e1, ← z1]; exact one w1
      exact ((r.of_block (bl2.block _ (by omega))).of_block (bl3.block _ (by omega))).of_block (bl4.block _ (by omega))
    have q2 : W0.rowIs sb 24 3 z3 := by
      have r : w3.rowIs sb 24 3 z3 := by rw [hw3, e2, ← z2]; exact rowt3 _ _ _ _ _
      exact (r.of_block (bl3.block _ (by omega))).of_block (bl4.block _ (by omega))
    have q3 : W0.rowIs ib 3 1 (fun _ => .int .i64 0) := by
      have r : w4.rowIs ib 3 1 (fun _ => .int .i64 0) := by rw [hw4, e3, ← z3']; exact one w3
      exact r.of_block (bl4.block _ (by omega))
    have q4 : W0.rowIs xb 9 1 (fun _ => .string s) := by
      rw [hW0, e4, ← z4]
      exact World.rowIs_alloc w4 #[.string s] 9 (fun _ => .string s) (fun i hi => by
        have : i = 0 := by simp at hi; omega
        subst this; rfl)
    have qb : Below w.heap.size w W0 := by
      have b01 : Below w.heap.size w w1 := by rw [hw1]; exact bel1 _ _
      exact (((b01.trans (bl1.mono (by omega))).trans (bl2.mono (by omega))).trans (bl3.mono (by omega))).trans (bl4.mono (by omega))
    have HA : Hid (b0 = w.heap.size ∧ b1 = b0 + 1 ∧ sb = b0 + 2 ∧ ib = b0 + 3 ∧ xb = b0 + 4 ∧ lo = b0 + 5) := ⟨e0, by omega, by omega, by omega, by omega, by omega⟩
    have J0 : Hid (PJ w s b0 b1 sb ib lo 0 W0) := ⟨⟨.slice none 0 0, q2, nil_ownE _ _⟩, q3, q0, q1, qb, by omega, good_zero s⟩
    have Q4 : Hid (W0.rowIs xb 9 1 (fun _ => .string s) ∧ lo = W0.heap.size) := ⟨q4, e5⟩
    clear q0 q1 q2 q3 q4 qb one bl1 bl2 bl3 bl4 z1 z2 z3' z4 z5 e5 hv hbs hbig
    refine (callsIn_wide (n := 8)).1 ?_
    refine callsIn_of_wp_marks Tryd.func5 rfl trivial ?_ rfl
    simp only [Tryd.ntmps5, List.size_toArray, List.length_cons, List.length_nil, Nat.reduceAdd, Nat.reduceSub, Array.replicate_succ, Array.replicate_zero, List.push_toArray, List.append_toArray, List.nil_append, List.cons_append]
    gi_wp2_with fail
    refine ⟨trivial, (callsIn_wide.2 (C13.out _)).mono ?_⟩
    rintro e wX ⟨rfl, rfl⟩
    gi_wp2_with fail
    rw [← hw1, ← hw2, ← hw3, ← hw4, ← hW0, ← e4, ← e3, ← e2, ← e1, ← e0]
    clear hw1 hw2 hw3 hw4 hW0 e0 e1 e2 e3 e4 C13 w1 w2 w3 w4
    refine range_cell (n := 8) (by omega) (gf := 23) (lb := #[.pointer (some ⟨xb, 0, none⟩)]) rfl (enters_of Tryd.func23 (by kernel_rfl) rfl) (lines_seq 7 (by omega) xb s HV.out.2.2) (by have := Q4.out.1.lt; exact this) (Q4.out.1.cell (i := 0) (by omega)) (Q4.out.1.frozen 0) rfl
      (PJ w s b0 b1 sb ib lo) (PX w s b0 b1) (by rw [← Q4.out.2]; exact pj_own (by have := HA.out; omega)) (by rw [← Q4.out.2]; exact px_own (by have := HA.out; omega)) (fun k W v h => pj_set v h (by have := HA.out; omega) (by have := HA.out; omega) (by have := HA.out; omega) (by have := HA.out; omega) (by have := HA.out; omega) (by have := HA.out; omega)) J0.out
      (fun x => { tmps := #[.string s, undef, .pointer (some ⟨b0, 0, none⟩), .pointer (some ⟨b1, 0, none⟩), .pointer (some ⟨sb, 0, none⟩), .pointer (some ⟨ib, 0, none⟩), .string x, undef, .string s, .int .i64 (s.size : Int), .bool false, undef, .string s, .func (.func 23) #[] #[.pointer (some ⟨xb, 0, none⟩)], .string x, undef, undef, undef, undef, undef, undef, undef, undef, undef, undef, undef, undef, undef, undef, undef, undef, undef, undef, undef, undef, undef, undef], defers := [] }) ?assign ?body ?done ?stop
    case assign =>
      intro l x W K hK
      gi_wp2
      exact hK
    case body =>
      rintro l k x W hJ hkN ⟨hx1, hx2⟩
      have HJ : Hid (PJ w s b0 b1 sb ib lo k W) := hJ
      have hkb : k ≤ 1048576 := by have := len_lines s; have := HV.out; omega
      have hxs : x.size ≤ 1048576 := by have := HV.out; omega
      have hls : (lineAt s k).size ≤ 1048576 := by have := size_lines s k; have := HV.out; unfold lineAt; omega
      obtain ⟨ln, hln⟩ : ∃ ln, ln = lineAt s k := ⟨_, rfl⟩
      have HX : Hid (Below W.heap.size W W) := Below.refl _ _
      have C15 : Hid (∀ V, Calls Tryd.prog 15 #[.string x, .string ⟨#[10]⟩] V fun e w' => e = .returned (.string ln) ∧ w' = V) := fun V => k_trim x ln V hxs (by rw [hln]; exact hx1)
      have C16 : Hid (∀ V, Below W.heap.size W V → Calls Tryd.prog 16 #[.int .i64 (k : Int)] V fun e w' => ∃ g, e = .returned (.slice (some ⟨g, 0, none⟩) (nAt k) (nAt k)) ∧ Hid (Kinds w' g (nAt k) (kwAt k) (kfAt k) ∧ Below W.heap.size W w')) := fun V hV => (p_kinds k V).mono fun e w' ⟨h1, h2, h3⟩ => ⟨V.heap.size, h1, h2, hV.trans (h3.mono hV.size)⟩
      obtain ⟨ok, hok⟩ : ∃ ok, ok = okAt k (lineAt s k) (wksK s k) := ⟨_, rfl⟩
      have C14 : Hid (∀ g V, Kinds V g (nAt k) (kwAt k) (kfAt k) → Below W.heap.size W V → Calls Tryd.prog 14 #[.pointer (some ⟨sb, 0, none⟩), .string ln, .slice (some ⟨g, 0, none⟩) (nAt k) (nAt k)] V fun e w' => e = .returned (.bool ok) ∧ Hid (Below W.heap.size W V ∧ RdPost sb lo V ok (wksK s (k + 1)) (cpyK s (k + 1)) (evsK s (k + 1)) e w')) := fun g V hK hV => by
        rw [hln, hok]
        exact (p_rl ((pj_sc hJ HV.out.1 (by have := HA.out; omega) hkb).below hV) hJ.good hls hK).mono fun e w' hp => ⟨hp.1, hV, hp⟩
      have HOK : Hid (ok = okAt k (lineAt s k) (wksK s k)) := hok
      have HKN : Hid (k < (linesOf s).length) := hkN
      have c0 : W.cell? ⟨ib, 0, none⟩ = some (.int .i64 (k : Int)) := hJ.ix.cell (i := 0) (by omega)
      have d0 : W.cell? ⟨b0, 0, none⟩ = some (.int .i64 0) := hJ.r0.cell (i := 0) (by omega)
      have d1 : W.cell? ⟨b0, 1, none⟩ = some (.int .i64 0) := hJ.r0.cell (i := 1) (by omega)
      have d2 : W.cell? ⟨b0, 2, none⟩ = some (.slice none 0 0) := hJ.r0.cell (i := 2) (by omega)
      have f0 := hJ.r0.frozen 0
      have f1 := hJ.r0.frozen 1
      have f2 := hJ.r0.frozen 2
      have g0 : W.cell? ⟨b1, 0, none⟩ = some (.int .i64 0) := hJ.r1.cell (i := 0) (by omega)
      have g1 := hJ.r1.frozen 0
      have nb01 : ¬ b0 = b1 := by have := HA.out; omega
      have nb10 : ¬ b1 = b0 := by have := HA.out; omega
      have nib0 : ¬ ib = b0 := by have := HA.out; omega
      have nib1 : ¬ ib = b1 := by have := HA.out; omega
      clear hJ hln hok hkN hx1 hx2 hls hxs
      have h6 : 1 ≤ 8 - 1 - 1 := by omega
      by_cases hk5 : (k : Int) = 5002
      · clear C14 C15 C16
        have hmx : Tryd.prog.follows .mixedOrders = true := by kernel_rfl
        gi_wp2
        have HFIN := Lib.hid (pj_stop (w := w) (W := W) (V := W) (s := s) (lo := W0.heap.size) (k := k) (KeepsOthers.refl _) HJ.out.r0 HJ.out.r1 HJ.out.b (sc_stop HV.out.2.1 HJ.out.good HKN.out (Or.inl (by omega))) (by have := HA.out; omega) (by have := HA.out; omega) (IntKind.i64.wrap 5003) (by rw [hk5]; decide))
        gi_region_with_o (refine ⟨trivial, ?_⟩)
        all_goals
          gi_wp2
          gi_region_with_o (fail)
        all_goals
          gi_wp2
          exact HFIN.out _ rfl rfl rfl rfl
      · have hk6 : decide ((k : Int) = 5002) = false := decide_eq_false hk5
        have hmx : Tryd.prog.follows .mixedOrders = true := by kernel_rfl
        have hk7 : (k : Int) ≤ 1048576 := by omega
        have hk8 : (0 : Int) ≤ (k : Int) := by omega
        cases ok
        · gi_wp2_with fail
          gi_region_with_o (first | (refine ⟨trivial, ?_⟩; gi_at_call 15; refine (CallsIn.inRound l (callsIn_wide.2 (C15.out _))).mono ?_; rintro e wa ⟨rfl, rfl⟩) | (refine ⟨trivial, ?_⟩; gi_at_call 16; refine (CallsIn.inRound l (callsIn_wide.2 (C16.out W.drew (Below.refl _ _).drew))).mono ?_; rintro e wb ⟨g, rfl, hkb2⟩) | (refine ⟨trivial, ?_⟩; gi_at_call 14; refine (CallsIn.inRound l (callsIn_wide.2 (C14.out _ _ hkb2.out.1 hkb2.out.2))).mono ?_; rintro e wc ⟨rfl, hp⟩))
          all_goals
            obtain ⟨HRD, h0r, h1r, hir, hbr, hlr⟩ := pj_read HJ.out hp.out.1 hp.out.2 (by have := HA.out; omega) (by have := HA.out; omega) (by have := HA.out; omega) (by have := HA.out; omega) (by have := HA.out; omega)
            have HFIN := Lib.hid (pj_stop (w := w) (W := W) (V := wc) (s := s) (lo := W0.heap.size) (k := k) HRD.oth h0r h1r hbr (sc_stop HV.out.2.1 HJ.out.good HKN.out (Or.inr HOK.out.symm)) (by have := HA.out; omega) (by have := HA.out; omega))
            clear c0 d0 d1 d2 f0 f1 f2 g0 g1 HRD hbr hlr
            have c0 : wc.cell? ⟨ib, 0, none⟩ = some (.int .i64 (k : Int)) := hir.cell (i := 0) (by omega)
            have d0 : wc.cell? ⟨b0, 0, none⟩ = some (.int .i64 0) := h0r.cell (i := 0) (by omega)
            have d1 : wc.cell? ⟨b0, 1, none⟩ = some (.int .i64 0) := h0r.cell (i := 1) (by omega)
            have d2 : wc.cell? ⟨b0, 2, none⟩ = some (.slice none 0 0) := h0r.cell (i := 2) (by omega)
            have f0 := h0r.frozen 0
            have f1 := h0r.frozen 1
            have f2 := h0r.frozen 2
            have g0 : wc.cell? ⟨b1, 0, none⟩ = some (.int .i64 0) := h1r.cell (i := 0) (by omega)
            have g1 := h1r.frozen 0
            gi_wp2
            gi_region_with_o (fail)
          all_goals
            gi_wp2
            exact HFIN.out _ (wrap_k hk8 hk7) _ rfl rfl rfl rfl
        · gi_wp2_with fail
          gi_region_with_o (first | (refine ⟨trivial, ?_⟩; gi_at_call 15; refine (CallsIn.inRound l (callsIn_wide.2 (C15.out _))).mono ?_; rintro e wa ⟨rfl, rfl⟩) | (refine ⟨trivial, ?_⟩; gi_at_call 16; refine (CallsIn.inRound l (callsIn_wide.2 (C16.out W.drew (Below.refl _ _).drew))).mono ?_; rintro e wb ⟨g, rfl, hkb2⟩) | (refine ⟨trivial, ?_⟩; gi_at_call 14; refine (CallsIn.inRound l (callsIn_wide.2 (C14.out _ _ hkb2.out.1 hkb2.out.2))).mono ?_; rintro e wc ⟨rfl, hp⟩))
          all_goals
            obtain ⟨HRD, h0r, h1r, hir, hbr, hlr⟩ := pj_read HJ.out hp.out.1 hp.out.2 (by have := HA.out; omega) (by have := HA.out; omega) (by have := HA.out; omega) (by have := HA.out; omega) (by have := HA.out; omega)
            have c1 : wc.cell? ⟨ib, 0, none⟩ = some (.int .i64 (k : Int)) := hir.cell (i := 0) (by omega)
            have c2 := hir.frozen 0
            have HFIN := Lib.hid (pj_next (w := w) (W := W) (V := wc) (s := s) (xb := xb) (k := k) HRD (hp.out.2.2.2 rfl) h0r h1r hir hbr hlr (good_succ HJ.out.good (by omega) HOK.out.symm) (by have := HJ.out.lw; have := HA.out; omega) HA.out)
            clear c0 d0 d1 d2 f0 f1 f2 g0 g1 HRD h0r h1r hir hbr hlr
            gi_wp2
            have hend := HFIN.out _ rfl _ rfl rfl rfl rfl
            exact ⟨by rw [← Q4.out.2]; exact hend.1, hend.2⟩
    case done =>
      rintro D W hD hJ hK
      have HJ : Hid (PJ w s b0 b1 sb ib lo (linesOf s).length W ∧ W0.heap.size ≤ D ∧ W.heap[D]? = some (.deferred (some []))) := ⟨hJ, hD, hK⟩
      have hN : (linesOf s).length ≤ 1048576 := by have := len_lines s; have := HV.out; omega
      obtain ⟨N, hNe⟩ : ∃ N, N = (linesOf s).length := ⟨_, rfl⟩
      rw [← hNe] at hJ hN
      have HN : Hid (N = (linesOf s).length) := hNe
      have c0 : W.cell? ⟨ib, 0, none⟩ = some (.int .i64 (N : Int)) := hJ.ix.cell (i := 0) (by omega)
      have d0 : W.cell? ⟨b0, 0, none⟩ = some (.int .i64 0) := hJ.r0.cell (i := 0) (by omega)
      have d1 : W.cell? ⟨b0, 1, none⟩ = some (.int .i64 0) := hJ.r0.cell (i := 1) (by omega)
      have d2 : W.cell? ⟨b0, 2, none⟩ = some (.slice none 0 0) := hJ.r0.cell (i := 2) (by omega)
      have f0 := hJ.r0.frozen 0
      have f1 := hJ.r0.frozen 1
      have f2 := hJ.r0.frozen 2
      have g0 : W.cell? ⟨b1, 0, none⟩ = some (.int .i64 0) := hJ.r1.cell (i := 0) (by omega)
      have g1 := hJ.r1.frozen 0
      obtain ⟨v, s1, s2⟩ := hJ.st
      obtain ⟨oa, cap, rfl⟩ := own_formE s2
      obtain ⟨en, hen⟩ : ∃ en, en = (evsK s N).length := ⟨_, rfl⟩
      rw [← hen] at s1 s2
      have HS : Hid (W.rowIs sb 24 3 (t3 (.int .i64 (wksK s N)) (.int .i64 (cpyK s N)) (.slice oa en cap)) ∧ OwnE W lo (.slice oa en cap) (evsK s N)) := ⟨s1, s2⟩
      clear hen
      have p0 : W.cell? ⟨sb, 0, none⟩ = some (.int .i64 (wksK s N)) := s1.cell (i := 0) (by omega)
      have p1 : W.cell? ⟨sb, 1, none⟩ = some (.int .i64 (cpyK s N)) := s1.cell (i := 1) (by omega)
      have p2 : W.cell? ⟨sb, 2, none⟩ = some (.slice oa en cap) := s1.cell (i := 2) (by omega)
      have nb01 : ¬ b0 = b1 := by have := HA.out; omega
      have nb10 : ¬ b1 = b0 := by have := HA.out; omega
      have nib0 : ¬ ib = b0 := by have := HA.out; omega
      have nib1 : ¬ ib = b1 := by have := HA.out; omega
      clear hJ hD hK hNe s1 s2
      by_cases hn2 : N < 2
      · have hn3 : (N : Int) < 2 := by omega
        clear p0 p1 p2
        gi_wp2
        gi_region
        have hJ := HJ.out.1
        rw [← HN.out] at hJ
        have ha := HA.out
        have hD := HJ.out.2.1
        have hlo := Q4.out.2
        have hrows := out_rows 0 0 (1 + (N : Int)) (.slice none 0 0) hJ.r0 hJ.r1 (by omega)
        have hbw := out_below (.int .i64 0) (.int .i64 0) (.int .i64 (1 + (N : Int))) (.slice none 0 0) hJ.b (by omega : w.heap.size ≤ b0) (by omega : w.heap.size ≤ b1)
        have hKD := (out_other (W := W) (.int .i64 0) (.int .i64 0) (.int .i64 (1 + (N : Int))) (.slice none 0 0) (by omega : D ≠ b0) (by omega : D ≠ b1)).trans HJ.out.2.2
        have hsc : scOf s = (scz, 1 + (N : Int)) := by
          rw [sc_short HV.out.2.1 (by rw [← HN.out]; exact hJ.good) (by rw [← HN.out]; exact hn2), ← HN.out, Int.add_comm]
        have FIN : Hid (∀ (tmps : Array Value), tmps[2]?.getD undef = .pointer (some ⟨b0, 0, none⟩) → tmps[3]?.getD undef = .pointer (some ⟨b1, 0, none⟩) → bodyPostM Fence.wide 8 Tryd.prog Tryd.f5 (fun e w' => ScPost w (scOf s) e w') Exit.ret { tmps := tmps, defers := [{ target := Target.collected D, args := #[] }] } (((((W.setCell ⟨b0, 0, none⟩ (.int .i64 0)).setCell ⟨b0, 1, none⟩ (.int .i64 0)).setCell ⟨b0, 2, none⟩ (.slice none 0 0)).setCell ⟨b1, 0, none⟩ (.int .i64 (1 + (N : Int)))).drew)) := fun tmps h2 h3 => p_fin (x := 0) (y := 0) (c := 1 + (N : Int)) (v := .slice none 0 0) (evs := []) hsc hrows.1 hrows.2 (by omega) (nil_ownE _ _) hbw.drew (by omega) hKD h2 h3
        clear hrows hbw hKD hsc hJ ha hD hlo c0 d0 d1 d2 f0 f1 f2 g0 g1
        gi_wp2
        exact FIN.out _ rfl rfl
      · have hn3 : ¬ (N : Int) < 2 := by omega
        have hJ := HJ.out.1
        rw [← HN.out] at hJ
        have ha := HA.out
        have hD := HJ.out.2.1
        have hlo := Q4.out.2
        have hrows := out_rows (wksK s N) (cpyK s N) 0 (.slice oa en cap) hJ.r0 hJ.r1 (by omega)
        have hbw := out_below (.int .i64 (wksK s N)) (.int .i64 (cpyK s N)) (.int .i64 0) (.slice oa en cap) hJ.b (by omega : w.heap.size ≤ b0) (by omega : w.heap.size ≤ b1)
        have hKD := (out_other (W := W) (.int .i64 (wksK s N)) (.int .i64 (cpyK s N)) (.int .i64 0) (.slice oa en cap) (by omega : D ≠ b0) (by omega : D ≠ b1)).trans HJ.out.2.2
        have hsc : scOf s = (⟨wksK s N, cpyK s N, evsK s N⟩, 0) := by
          rw [sc_done HV.out.2.1 (by rw [← HN.out]; exact hJ.good) (by rw [← HN.out]; omega), ← HN.out]
        have hown : OwnE ((((W.setCell ⟨b0, 0, none⟩ (.int .i64 (wksK s N))).setCell ⟨b0, 1, none⟩ (.int .i64 (cpyK s N))).setCell ⟨b0, 2, none⟩ (.slice oa en cap)).setCell ⟨b1, 0, none⟩ (.int .i64 0)) w.heap.size (.slice oa en cap) (evsK s N) :=
          own_setE (own_setE (own_setE (own_setE HS.out.2 (Nat.le_refl _) (by show b0 < lo; omega)) (Nat.le_refl _) (by show b0 < lo; omega)) (Nat.le_refl _) (by show b0 < lo; omega)) (by omega) (by show b1 < lo; omega)
        have FIN : Hid (∀ (tmps : Array Value), tmps[2]?.getD undef = .pointer (some ⟨b0, 0, none⟩) → tmps[3]?.getD undef = .pointer (some ⟨b1, 0, none⟩) → bodyPostM Fence.wide 8 Tryd.prog Tryd.f5 (fun e w' => ScPost w (scOf s) e w') Exit.ret { tmps := tmps, defers := [{ target := Target.collected D, args := #[] }] } ((((W.setCell ⟨b0, 0, none⟩ (.int .i64 (wksK s N))).setCell ⟨b0, 1, none⟩ (.int .i64 (cpyK s N))).setCell ⟨b0, 2, none⟩ (.slice oa en cap)).setCell ⟨b1, 0, none⟩ (.int .i64 0))) := fun tmps h2 h3 => p_fin hsc hrows.1 hrows.2 (by omega) hown hbw (by omega) hKD h2 h3
        clear hrows hbw hKD hsc hJ ha hD hlo hown
        gi_wp2
        exact FIN.out _ rfl rfl
    case stop =>
      rintro D k W hD hkN hX hK
      have ha := HA.out
      have hlo := Q4.out.2
      have hsc : scOf s = (scz, ((k + 1 : Nat) : Int)) := hX.sc
      have FIN : Hid (∀ (tmps : Array Value), tmps[2]?.getD undef = .pointer (some ⟨b0, 0, none⟩) → tmps[3]?.getD undef = .pointer (some ⟨b1, 0, none⟩) → bodyPostM Fence.wide 8 Tryd.prog Tryd.f5 (fun e w' => ScPost w (scOf s) e w') Exit.ret { tmps := tmps, defers := [{ target := Target.collected D, args := #[] }] } W) := fun tmps h2 h3 => p_fin (x := 0) (y := 0) (c := ((k + 1 : Nat) : Int)) (v := .slice none 0 0) (evs := []) hsc hX.r0 hX.r1 (by omega) (nil_ownE _ _) hX.b (by omega) hK h2 h3
      clear ha hlo hsc hX hK hD
      gi_wp2
      exact FIN.out _ rfl rfl

end Go.Proofs.YthmihmnagnibmaaDoor
