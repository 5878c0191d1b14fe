/-
  Scripts: the model's ParseScript, walked.
-/
import Derived.Test.YthmihmnagnibmaaDoorScrE
import Derived.Deep.DeepCutAuto
namespace Go.Proofs.YthmihmnagnibmaaDoor
open Go.RowKit

theorem sc_early {w W : World} {sc : SC × Int} {c : Int} (h : sc = (scz, c)) (hb : Below w.heap.size w W) : ScPost w sc (.returned (.tuple #[.agg #[.int .i64 0, .int .i64 0, .slice none 0 0], .int .i64 c])) W := by
  rw [h]
  exact ⟨_, rfl, nil_ownE _ _, hb⟩
/-- Three values by their place. -/
def t3 (a b c : Value) : Nat → Value
  | 0 => a
  | 1 => b
  | _ => c
abbrev z3 : Nat → Value := t3 (.int .i64 0) (.int .i64 0) (.slice none 0 0)
theorem rowt3 (w : World) (a b c : Value) (t : TypeId) : (w.alloc (.cells #[a, b, c] t)).rowIs w.heap.size t 3 (t3 a b c) :=
  World.rowIs_alloc w #[a, b, c] t _ (fun i hi => by
    match i, hi with
    | 0, _ => rfl
    | 1, _ => rfl
    | 2, _ => rfl)
/-- Four values by their place. -/
def t4 (a b c d : Value) : Nat → Value
  | 0 => a
  | 1 => b
  | 2 => c
  | _ => d
theorem rowt4 (w : World) (a b c d : Value) (t : TypeId) : (w.alloc (.cells #[a, b, c, d] t)).rowIs w.heap.size t 4 (t4 a b c d) :=
  World.rowIs_alloc w #[a, b, c, d] t _ (fun i hi => by
    match i, hi with
    | 0, _ => rfl
    | 1, _ => rfl
    | 2, _ => rfl
    | 3, _ => rfl)
/-- The boxes of the model's ParseScript. -/
def Bxs (w W : World) : Prop := W.rowIs w.heap.size 24 3 z3 ∧ W.rowIs (w.heap.size + 1) 24 3 z3
theorem Bxs.below {w W W' : World} (h : Bxs w W) (hb : Below W.heap.size W W') : Bxs w W' := ⟨h.1.of_block (hb.block _ h.1.lt), h.2.of_block (hb.block _ h.2.lt)⟩

theorem own_setE {W : World} {lo base : Nat} {v u : Value} {l : List EV} {a : Addr} (h : OwnE W lo v l) (hb : base ≤ lo) (ha : a.block < lo) : OwnE (W.setCell a u) base v l := by
  obtain ⟨k1, k2⟩ := h
  refine ⟨k1, ?_⟩
  rcases k2 with k2 | ⟨g', cp, cur, hv, hbb, hh, r⟩
  · exact Or.inl k2
  · exact Or.inr ⟨g', cp, cur, hv, by omega, (Below.heap_setCell _ _ _ _ (by omega)).trans hh, r⟩

/-- What the loop of the model's ParseScript holds. -/
structure PI (w1 wr : World) (xo : Nat) (wks cpy : Int) (v : Value) (evs : List EV) : Prop where
  b : Below xo w1 wr
  row : wr.rowIs xo 24 3 (t3 (.int .i64 wks) (.int .i64 cpy) v)
  own : OwnE wr (xo + 1) v evs

theorem pi_step {w1 wr Y w3 : World} {xo m cap2 gg cap3 : Nat} {wks cpy : Int} {oa : Option Addr} {evs : List EV} {e : EV} {o : Obj} (h : PI w1 wr xo wks cpy (.slice oa m cap2) evs) (hm : m = evs.length) (hY : Below wr.heap.size wr Y)
    (ho : w3.ownsRow (xo + 1) 36 4 (.slice (some ⟨gg, 0, none⟩) (m + 1) cap3) (m + 1) (evcells evs ++ evc e)) (hg : (Y.alloc o).grownBy w3 (Value.slice oa m cap2).ownBlock) :
    PI w1 (w3.setCell ⟨xo, 2, none⟩ (.slice (some ⟨gg, 0, none⟩) (m + 1) cap3)) xo wks cpy (.slice (some ⟨gg, 0, none⟩) (m + 1) cap3) (evs ++ [e]) := by
  have hx := h.row.lt
  have hYs := hY.size
  have hgs := hg.size
  have bs := h.b.size
  have blk : ∀ x, x ≤ xo → w3.heap[x]? = wr.heap[x]? := fun x hx2 => by
    rw [hg.block x (by simp; omega) (fun e => by have := (h.own.lt x e.symm).1; omega), Below.heap_alloc _ _ _ (by omega), hY.block x (by omega)]
  have hgg := (ho.lt gg rfl).1
  refine ⟨⟨hg.os.trans (hY.os.trans h.b.os), hg.tape.trans (hY.tape.trans h.b.tape), hg.output.trans (hY.output.trans h.b.output), by simp at hgs ⊢; omega, fun x hx2 => ?_⟩, ?_, ?_⟩
  · rw [Below.heap_setCell _ _ _ _ (by show x ≠ xo; omega), blk x (by omega), h.b.block x hx2]
  · exact ((h.row.of_block (blk xo (Nat.le_refl _))).set 2 _).congr (fun i hi => by
      match i, hi with
      | 0, _ => rfl
      | 1, _ => rfl
      | 2, _ => rfl)
  · unfold OwnE
    have e1 : (evs ++ [e]).length = m + 1 := by rw [List.length_append, hm]; rfl
    have e2 : evcells (evs ++ [e]) = evcells evs ++ evc e := by unfold evcells; rw [List.flatMap_append]; simp
    rw [e1, e2]
    obtain ⟨k1, k2⟩ := ho
    refine ⟨k1, ?_⟩
    rcases k2 with ⟨hv, _⟩ | ⟨g', cp, cur, hv, hb, hh, r⟩
    · cases hv
    · have : g' = gg := by simp only [Value.slice.injEq, Option.some.injEq, Addr.mk.injEq] at hv; exact hv.1.1.symm
      subst this
      exact Or.inr ⟨g', cp, cur, hv, hb, (Below.heap_setCell _ _ _ _ (by show g' ≠ xo; omega)).trans hh, r⟩

set_option maxRecDepth 100000 in
set_option maxHeartbeats 4000000 in
theorem m_parse (s : ByteArray) (w : World) (hs : s.size ≤ 1048576) :
    Calls Tryd.prog 4 #[.string s] w fun e w' => ScPost w (scOf s) e w' := by
  obtain ⟨sc, hsc⟩ : ∃ sc, sc = scOf s := ⟨_, rfl⟩
  rw [← hsc]
  have HSC : Hid (sc = scOf s) := hsc
  clear hsc
  by_cases hbig : 40000 < s.size
  · have HE : Hid (sc = (scz, 1)) := by rw [HSC.out]; unfold scOf; exact if_pos hbig
    go_enter Tryd.func4, Tryd.ntmps4
    go_wp2
    refine bodyPost_ret (v := .tuple #[.agg #[.int .i64 0, .int .i64 0, .slice none 0 0], .int .i64 1]) (by simp [results, Tryd.results4, go_sem]) rfl ?_
    exact sc_early HE.out (by exact (bel1 w _).alloc (by simp) _)
  have B2 : Hid (Bxs w ((w.alloc (.cells #[.int .i64 0, .int .i64 0, .slice none 0 0] 24)).alloc (.cells #[.int .i64 0, .int .i64 0, .slice none 0 0] 24))) := by
    have r2 := rowt3 (w.alloc (.cells #[.int .i64 0, .int .i64 0, .slice none 0 0] 24)) (.int .i64 0) (.int .i64 0) (.slice none 0 0) 24
    rw [World.size_alloc] at r2
    exact ⟨(rowt3 w _ _ _ _).alloc _, r2⟩
  go_enter Tryd.func4, Tryd.ntmps4
  go_wp2_with fail
  refine (m_lines s _ hs).mono ?_
  rintro e w1 ⟨v, rfl, hO, hb1⟩
  obtain ⟨L, hL⟩ : ∃ L, L = linesOf s := ⟨_, rfl⟩
  rw [← hL] at hO
  have HL : Hid (L = linesOf s) := hL
  have HB1 : Hid (Below w.heap.size w w1) := ((bel1 w (.cells #[.int .i64 0, .int .i64 0, .slice none 0 0] 24)).alloc (by simp) (.cells #[.int .i64 0, .int .i64 0, .slice none 0 0] 24)).trans (hb1.mono (by simp; omega))
  have BXw1 : Hid (Bxs w w1) := B2.out.below hb1
  have hll : L.length ≤ s.size + 1 := by rw [hL]; exact len_lines s
  have HSZ : Hid (∀ i, (L.getD i ⟨#[]⟩).size ≤ 1048576) := fun i => by rw [hL]; have := size_lines s i; omega
  have HO : Hid (Own9 w1 (w.heap.size + 1 + 1) v L) := by show Own9 _ _ _ _; simpa using hO
  clear hL hO hb1 B2
  have c0 : w1.cell? ⟨w.heap.size, 0, none⟩ = some (.int .i64 0) := BXw1.out.1.cell (i := 0) (by omega)
  have c1 : w1.cell? ⟨w.heap.size, 1, none⟩ = some (.int .i64 0) := BXw1.out.1.cell (i := 1) (by omega)
  have c2 : w1.cell? ⟨w.heap.size, 2, none⟩ = some (.slice none 0 0) := BXw1.out.1.cell (i := 2) (by omega)
  have f0 := BXw1.out.1.frozen 0
  have f1 := BXw1.out.1.frozen 1
  have f2 := BXw1.out.1.frozen 2
  have n0 : w1.cell? ⟨w.heap.size + 1, 0, none⟩ = some (.int .i64 0) := BXw1.out.2.cell (i := 0) (by omega)
  have n1 : w1.cell? ⟨w.heap.size + 1, 1, none⟩ = some (.int .i64 0) := BXw1.out.2.cell (i := 1) (by omega)
  have n2 : w1.cell? ⟨w.heap.size + 1, 2, none⟩ = some (.slice none 0 0) := BXw1.out.2.cell (i := 2) (by omega)
  by_cases hl1 : L.length < 1
  · obtain ⟨oa, cap, hv⟩ := own_form9 HO.out
    subst hv
    have HE : Hid (sc = (scz, 1)) := by show _ = _; rw [HSC.out]; unfold scOf; rw [if_neg hbig, ← HL.out, if_pos hl1]
    have hl1' : (L.length : Int) < 1 := by omega
    go_wp2
    refine bodyPost_ret (v := .tuple #[.agg #[.int .i64 0, .int .i64 0, .slice none 0 0], .int .i64 1]) (by simp [results, Tryd.results4, go_sem, c0, c1, c2]) rfl ?_
    exact sc_early HE.out (((HB1.out.setCell (by show w.heap.size ≤ w.heap.size; omega) _).setCell (by show w.heap.size ≤ w.heap.size; omega) _).setCell (by show w.heap.size ≤ w.heap.size; omega) _)
  obtain ⟨g, cap, hv, hg1, hg2, hcs⟩ := own9_at HO.out (by omega)
  subst hv
  have HCS : Hid (∀ i, i < L.length → w1.cell? ⟨g, i, none⟩ = some (.string (L.getD i ⟨#[]⟩))) := hcs
  have x0 := hcs 0 (by omega)
  obtain ⟨ln, hln⟩ : ∃ ln, ln = L.length := ⟨_, rfl⟩
  rw [← hln]
  have HLN : Hid (ln = L.length) := hln
  have hl1' : 1 ≤ ln := by omega
  have hl1i : ¬ (ln : Int) < 1 := by omega
  have hlni : (0 : Int) < (ln : Int) := by omega
  obtain ⟨a0, ha0⟩ : ∃ a0, a0 = L.getD 0 ⟨#[]⟩ := ⟨_, rfl⟩
  rw [← ha0] at x0
  have HA0 : Hid (a0 = L.getD 0 ⟨#[]⟩) := ha0
  have hs0 : a0.size ≤ 1048576 := by rw [ha0]; exact HSZ.out 0
  obtain ⟨r0, hr0⟩ : ∃ r0, r0 = aft a0 ⟨#[119, 111, 114, 107, 101, 114, 115]⟩ := ⟨_, rfl⟩
  obtain ⟨q0, hq0⟩ : ∃ q0, q0 = decide (isAft a0 ⟨#[119, 111, 114, 107, 101, 114, 115]⟩) := ⟨_, rfl⟩
  obtain ⟨wks, hwks⟩ : ∃ wks, wks = num r0 := ⟨_, rfl⟩
  have hrs0 : r0.size ≤ a0.size := by rw [hr0]; exact aft_size _ _
  have HW : Hid (wksOk a0 ↔ (q0 = true ∧ 1 ≤ wks ∧ wks ≤ 16)) := by
    show _ ↔ _
    unfold wksOk wksOf
    rw [hq0, hwks, hr0, decide_eq_true_eq]
  have HWO : Hid (wksOf a0 = wks) := by show _ = _; unfold wksOf; rw [hwks, hr0]
  have CA : Hid (∀ W, Calls Tryd.prog 10 #[.string a0, .string ⟨#[119, 111, 114, 107, 101, 114, 115]⟩] W fun e w' => e = .returned (.tuple #[.string r0, .bool q0]) ∧ W = w') := fun W => by
    rw [hr0, hq0]; exact (m_after a0 _ W (by omega) (by decide)).mono fun e w' ⟨he, hw⟩ => ⟨he, hw.symm⟩
  have CN : Hid (∀ W, Calls Tryd.prog 11 #[.string r0] W fun e w' => e = .returned (.int .i64 wks) ∧ W = w') := fun W => by
    rw [hwks]; exact (m_number r0 W (by omega)).mono fun e w' ⟨he, hw⟩ => ⟨he, hw.symm⟩
  clear ha0 hr0 hq0 hwks hcs hln
  go_wp2_with fail
  refine (CA.out _).mono ?_
  rintro e wq ⟨rfl, hwq⟩
  subst hwq
  go_wp2_with fail
  refine (CN.out _).mono ?_
  rintro e wq ⟨rfl, hwq⟩
  subst hwq
  clear CA CN
  by_cases hok0 : wksOk a0
  case neg =>
    have HE : Hid (sc = (scz, 1)) := by show _ = _; rw [HSC.out]; unfold scOf; rw [if_neg hbig, ← HL.out, if_neg (by have := HLN.out; omega), ← HA0.out, if_pos hok0]
    have hno := fun h => hok0 (HW.out.2 h)
    clear hok0
    cases q0
    · go_wp2
      refine bodyPost_ret (v := .tuple #[.agg #[.int .i64 0, .int .i64 0, .slice none 0 0], .int .i64 1]) (by simp [results, Tryd.results4, go_sem, c0, c1, c2]) rfl ?_
      exact sc_early HE.out (((HB1.out.setCell (by show w.heap.size ≤ w.heap.size; omega) _).setCell (by show w.heap.size ≤ w.heap.size; omega) _).setCell (by show w.heap.size ≤ w.heap.size; omega) _)
    · by_cases h1 : wks < 1
      · go_wp2
        refine bodyPost_ret (v := .tuple #[.agg #[.int .i64 0, .int .i64 0, .slice none 0 0], .int .i64 1]) (by simp [results, Tryd.results4, go_sem, c0, c1, c2]) rfl ?_
        exact sc_early HE.out (((HB1.out.setCell (by show w.heap.size ≤ w.heap.size; omega) _).setCell (by show w.heap.size ≤ w.heap.size; omega) _).setCell (by show w.heap.size ≤ w.heap.size; omega) _)
      · have h16 : 16 < wks := by
          by_cases h : 16 < wks
          · exact h
          · exact absurd ⟨rfl, by omega, by omega⟩ hno
        go_wp2
        refine bodyPost_ret (v := .tuple #[.agg #[.int .i64 0, .int .i64 0, .slice none 0 0], .int .i64 1]) (by simp [results, Tryd.results4, go_sem, c0, c1, c2]) rfl ?_
        exact sc_early HE.out (((HB1.out.setCell (by show w.heap.size ≤ w.heap.size; omega) _).setCell (by show w.heap.size ≤ w.heap.size; omega) _).setCell (by show w.heap.size ≤ w.heap.size; omega) _)
  obtain ⟨hq1, hw1, hw2⟩ := HW.out.1 hok0
  have HOK0 : Hid (wksOk a0) := hok0
  clear hok0 HW
  subst hq1
  by_cases hl2 : ln < 2
  case pos =>
    have HE : Hid (sc = (scz, 2)) := by show _ = _; rw [HSC.out]; unfold scOf; rw [if_neg hbig, ← HL.out, if_neg (by have := HLN.out; omega), ← HA0.out, if_neg (fun h => h HOK0.out), if_pos (by have := HLN.out; omega)]
    have hl2' : (ln : Int) < 2 := by omega
    go_wp2
    refine bodyPost_ret (v := .tuple #[.agg #[.int .i64 0, .int .i64 0, .slice none 0 0], .int .i64 2]) (by simp [results, Tryd.results4, go_sem, c0, c1, c2]) rfl ?_
    exact sc_early HE.out (((HB1.out.setCell (by show w.heap.size ≤ w.heap.size; omega) _).setCell (by show w.heap.size ≤ w.heap.size; omega) _).setCell (by show w.heap.size ≤ w.heap.size; omega) _)
  have hl2' : ¬ (ln : Int) < 2 := by omega
  have hl2i : (1 : Int) < (ln : Int) := by omega
  clear x0
  have x1 := HCS.out 1 (by have := HLN.out; omega)
  obtain ⟨a1, ha1⟩ : ∃ a1, a1 = L.getD 1 ⟨#[]⟩ := ⟨_, rfl⟩
  rw [← ha1] at x1
  have HA1 : Hid (a1 = L.getD 1 ⟨#[]⟩) := ha1
  have hs1 : a1.size ≤ 1048576 := by rw [ha1]; exact HSZ.out 1
  obtain ⟨r1, hr1⟩ : ∃ r1, r1 = aft a1 ⟨#[99, 97, 112, 97, 99, 105, 116, 121]⟩ := ⟨_, rfl⟩
  obtain ⟨q1, hq1⟩ : ∃ q1, q1 = decide (isAft a1 ⟨#[99, 97, 112, 97, 99, 105, 116, 121]⟩) := ⟨_, rfl⟩
  obtain ⟨cpy, hcpy⟩ : ∃ cpy, cpy = num r1 := ⟨_, rfl⟩
  have hrs1 : r1.size ≤ a1.size := by rw [hr1]; exact aft_size _ _
  have HW : Hid (cpyOk a1 ↔ (q1 = true ∧ 1 ≤ cpy ∧ cpy ≤ 4096)) := by
    show _ ↔ _
    unfold cpyOk cpyOf
    rw [hq1, hcpy, hr1, decide_eq_true_eq]
  have HCO : Hid (cpyOf a1 = cpy) := by show _ = _; unfold cpyOf; rw [hcpy, hr1]
  have CA : Hid (∀ W, Calls Tryd.prog 10 #[.string a1, .string ⟨#[99, 97, 112, 97, 99, 105, 116, 121]⟩] W fun e w' => e = .returned (.tuple #[.string r1, .bool q1]) ∧ W = w') := fun W => by
    rw [hr1, hq1]; exact (m_after a1 _ W (by omega) (by decide)).mono fun e w' ⟨he, hw⟩ => ⟨he, hw.symm⟩
  have CN : Hid (∀ W, Calls Tryd.prog 11 #[.string r1] W fun e w' => e = .returned (.int .i64 cpy) ∧ W = w') := fun W => by
    rw [hcpy]; exact (m_number r1 W (by omega)).mono fun e w' ⟨he, hw⟩ => ⟨he, hw.symm⟩
  clear ha1 hr1 hq1 hcpy
  have hw3 : ¬ wks < 1 := by omega
  have hw4 : ¬ 16 < wks := by omega
  go_wp2_with fail
  refine (CA.out _).mono ?_
  rintro e wq ⟨rfl, hwq⟩
  subst hwq
  go_wp2_with fail
  refine (CN.out _).mono ?_
  rintro e wq ⟨rfl, hwq⟩
  subst hwq
  clear CA CN
  by_cases hok1 : cpyOk a1
  case neg =>
    have HE : Hid (sc = (scz, 2)) := by show _ = _; rw [HSC.out]; unfold scOf; rw [if_neg hbig, ← HL.out, if_neg (by have := HLN.out; omega), ← HA0.out, if_neg (fun h => h HOK0.out), if_neg (by have := HLN.out; omega), ← HA1.out, if_pos hok1]
    have hno := fun h => hok1 (HW.out.2 h)
    clear hok1
    cases q1
    · go_wp2
      refine bodyPost_ret (v := .tuple #[.agg #[.int .i64 0, .int .i64 0, .slice none 0 0], .int .i64 2]) (by simp [results, Tryd.results4, go_sem, c0, c1, c2]) rfl ?_
      exact sc_early HE.out (((HB1.out.setCell (by show w.heap.size ≤ w.heap.size; omega) _).setCell (by show w.heap.size ≤ w.heap.size; omega) _).setCell (by show w.heap.size ≤ w.heap.size; omega) _)
    · by_cases h1 : cpy < 1
      · go_wp2
        refine bodyPost_ret (v := .tuple #[.agg #[.int .i64 0, .int .i64 0, .slice none 0 0], .int .i64 2]) (by simp [results, Tryd.results4, go_sem, c0, c1, c2]) rfl ?_
        exact sc_early HE.out (((HB1.out.setCell (by show w.heap.size ≤ w.heap.size; omega) _).setCell (by show w.heap.size ≤ w.heap.size; omega) _).setCell (by show w.heap.size ≤ w.heap.size; omega) _)
      · have h16 : 4096 < cpy := by
          by_cases h : 4096 < cpy
          · exact h
          · exact absurd ⟨rfl, by omega, by omega⟩ hno
        go_wp2
        refine bodyPost_ret (v := .tuple #[.agg #[.int .i64 0, .int .i64 0, .slice none 0 0], .int .i64 2]) (by simp [results, Tryd.results4, go_sem, c0, c1, c2]) rfl ?_
        exact sc_early HE.out (((HB1.out.setCell (by show w.heap.size ≤ w.heap.size; omega) _).setCell (by show w.heap.size ≤ w.heap.size; omega) _).setCell (by show w.heap.size ≤ w.heap.size; omega) _)
  obtain ⟨hq2, hp1, hp2⟩ := HW.out.1 hok1
  have HR : Hid (sc = restOf L wks cpy) := by
    show _ = _
    rw [HSC.out]; unfold scOf; rw [if_neg hbig, ← HL.out, if_neg (by have := HLN.out; omega), ← HA0.out, if_neg (fun h => h HOK0.out), if_neg (by have := HLN.out; omega), ← HA1.out, if_neg (fun h => h hok1), HWO.out, HCO.out]
  clear hok1 HW
  subst hq2
  have hp3 : ¬ cpy < 1 := by omega
  have hp4 : ¬ 4096 < cpy := by omega
  obtain ⟨xo, hxo⟩ : ∃ xo, xo = w1.heap.size := ⟨_, rfl⟩
  obtain ⟨wO, hwO⟩ : ∃ wO, wO = w1.alloc (.cells #[.int .i64 wks, .int .i64 cpy, .slice none 0 0] 24) := ⟨_, rfl⟩
  have HRO : Hid (wO.rowIs xo 24 3 (t3 (.int .i64 wks) (.int .i64 cpy) (.slice none 0 0))) := by rw [hwO, hxo]; exact rowt3 w1 _ _ _ _
  have HBO : Hid (Below xo w1 wO) := by rw [hwO, hxo]; exact bel1 _ _
  have hxw : w.heap.size + 1 < xo := by rw [hxo]; exact BXw1.out.2.lt
  have hgx : g < xo := by rw [hxo]; exact hg2
  clear x1
  go_upto_region 18 with fail
  rw [← hwO, ← hxo]
  have hxs : xo < wO.heap.size := HRO.out.lt
  clear c0 c1 c2 f0 f1 f2 n0 n1 n2
  clear hwO hxo
  have P0 : Hid (∃ v, PI w1 wO xo wks cpy v (evsTo L wks (2 - 2))) := ⟨_, HBO.out, HRO.out, nil_ownE _ _⟩
  obtain ⟨i0, hi0, hz0, hz1, hz2⟩ := info_parts9 Tryd.infoEv
  go_wp2_with fail
  go_loopw [11] (fun i wr => ∃ k : Nat, 2 ≤ k ∧ k ≤ ln ∧ k ≤ 5002 ∧ i = .int .i64 (k : Int) ∧ Hid (∀ j, j + 2 < k → badAt L wks (j + 2) = false) ∧ Hid (∃ v, PI w1 wr xo wks cpy v (evsTo L wks (k - 2)))) (fun i _ => ln - (intOf i).toNat)
  case atStart => exact ⟨2, Nat.le_refl _, by omega, by omega, rfl, fun j hj => absurd hj (by omega), P0⟩
  case round =>
    clear P0 HRO HBO hxs
    obtain ⟨k, hk2, hkl, hk5, rfl, HM, HP⟩ := hrel
    obtain ⟨v, hp⟩ := HP.out
    obtain ⟨oa, cap2, hv⟩ := own_formE hp.own
    obtain ⟨m, hm⟩ : ∃ m, m = k - 2 := ⟨_, rfl⟩
    rw [← hm] at hp
    rw [evs_len, ← hm] at hv
    subst hv
    have HPI : Hid (PI w1 wr xo wks cpy (.slice oa m cap2) (evsTo L wks m)) := hp
    have z2 : wr.cell? ⟨xo, 2, none⟩ = some (.slice oa m cap2) := hp.row.cell (i := 2) (by omega)
    have z0 : wr.cell? ⟨xo, 0, none⟩ = some (.int .i64 wks) := hp.row.cell (i := 0) (by omega)
    have z1 : wr.cell? ⟨xo, 1, none⟩ = some (.int .i64 cpy) := hp.row.cell (i := 1) (by omega)
    have HBW : Hid (∀ W, Below xo w1 W → Bxs w W ∧ Below w.heap.size w W) := fun W hW => ⟨⟨BXw1.out.1.of_block (hW.block _ (by omega)), BXw1.out.2.of_block (hW.block _ (by omega))⟩, HB1.out.trans (hW.mono (by omega))⟩
    have BXwr : Hid (Bxs w wr) := (HBW.out wr hp.b).1
    have HBr : Hid (Below w.heap.size w wr) := (HBW.out wr hp.b).2
    clear hp
    by_cases hlt : k < ln
    · have hli : (k : Int) < (ln : Int) := by omega
      by_cases h5 : m = 5000
      · have HE : Hid (sc = (scz, 5003)) := by
          show _ = _
          have hb : badAt L wks (5000 + 2) = true := by unfold badAt; simp
          rw [HR.out, rest_bad (i := 5000) (by have := HLN.out; omega) (fun j hj => HM.out j (by omega)) hb]
          rfl
        have c0 : wr.cell? ⟨w.heap.size, 0, none⟩ = some (.int .i64 0) := BXwr.out.1.cell (i := 0) (by omega)
        have c1 : wr.cell? ⟨w.heap.size, 1, none⟩ = some (.int .i64 0) := BXwr.out.1.cell (i := 1) (by omega)
        have c2 : wr.cell? ⟨w.heap.size, 2, none⟩ = some (.slice none 0 0) := BXwr.out.1.cell (i := 2) (by omega)
        have f0 := BXwr.out.1.frozen 0
        have f1 := BXwr.out.1.frozen 1
        have f2 := BXwr.out.1.frozen 2
        have n0 : wr.cell? ⟨w.heap.size + 1, 0, none⟩ = some (.int .i64 0) := BXwr.out.2.cell (i := 0) (by omega)
        have n1 : wr.cell? ⟨w.heap.size + 1, 1, none⟩ = some (.int .i64 0) := BXwr.out.2.cell (i := 1) (by omega)
        have n2 : wr.cell? ⟨w.heap.size + 1, 2, none⟩ = some (.slice none 0 0) := BXwr.out.2.cell (i := 2) (by omega)
        have h5' : ((m : Int) == 5000) = true := by rw [beq_iff_eq]; omega
        clear hm
        go_wp2
        refine bodyPost_ret (v := .tuple #[.agg #[.int .i64 0, .int .i64 0, .slice none 0 0], .int .i64 5003]) (by simp [results, Tryd.results4, go_sem, c0, c1, c2]) rfl ?_
        exact sc_early HE.out (((HBr.out.setCell (by show w.heap.size ≤ w.heap.size; omega) _).setCell (by show w.heap.size ≤ w.heap.size; omega) _).setCell (by show w.heap.size ≤ w.heap.size; omega) _)
      · have h5' : ((m : Int) == 5000) = false := beq_eq_false_iff_ne.2 (by omega)
        obtain ⟨lk, hlk⟩ : ∃ lk, lk = L.getD k ⟨#[]⟩ := ⟨_, rfl⟩
        have hsk : lk.size ≤ 1048576 := by rw [hlk]; exact HSZ.out k
        have xk : wr.cell? ⟨g, k, none⟩ = some (.string lk) := by
          rw [HPI.out.b.cell (p := ⟨g, k, none⟩) (by show g < xo; omega), hlk]
          exact HCS.out k (by have := HLN.out; omega)
        obtain ⟨ek, hek⟩ : ∃ ek, ek = (evOf lk wks).1.kind := ⟨_, rfl⟩
        obtain ⟨en, hen⟩ : ∃ en, en = (evOf lk wks).1.name := ⟨_, rfl⟩
        obtain ⟨et, het⟩ : ∃ et, et = (evOf lk wks).1.text := ⟨_, rfl⟩
        obtain ⟨ew, hew⟩ : ∃ ew, ew = (evOf lk wks).1.wk := ⟨_, rfl⟩
        obtain ⟨eb, heb⟩ : ∃ eb, eb = (evOf lk wks).2 := ⟨_, rfl⟩
        have CE : Hid (Calls Tryd.prog 12 #[.string lk, .int .i64 wks] wr fun e w' => e = .returned (.tuple #[.agg #[.int .i64 ek, .string en, .string et, .int .i64 ew], .bool eb]) ∧ Hid (Below wr.heap.size wr w')) := by
          rw [hek, hen, het, hew, heb]
          exact (m_event lk wks wr hsk).mono fun e w' ⟨he, hb⟩ => ⟨he, hb⟩
        have HEE : Hid ((evOf (L.getD k ⟨#[]⟩) wks).1 = ⟨ek, en, et, ew⟩ ∧ (evOf (L.getD k ⟨#[]⟩) wks).2 = eb) := by rw [← hlk, hek, hen, het, hew, heb]; exact ⟨rfl, rfl⟩
        have HMK : Hid (m = k - 2) := hm
        clear hlk hek hen het hew heb hm
        have hwk1 : IntKind.i64.wrap ((k : Int) + 1) = (k : Int) + 1 := by rw [IntKind.wrap_i64]; omega
        go_wp2_with fail
        refine CE.out.mono ?_
        rintro e w2 ⟨rfl, HB2⟩
        clear xk CE z0 z1 z2
        go_upto_region 24 with fail
        obtain ⟨Y, hY⟩ : ∃ Y, Y = w2.alloc (.cells #[.int .i64 ek, .string en, .string et, .int .i64 ew] 36) := ⟨_, rfl⟩
        obtain ⟨be, hbe⟩ : ∃ be, be = w2.heap.size := ⟨_, rfl⟩
        rw [← hY, ← hbe]
        have HBY : Hid (Below wr.heap.size wr Y) := by rw [hY]; exact HB2.out.alloc HB2.out.size _
        have HRE : Hid (Y.rowIs be 36 4 (t4 (.int .i64 ek) (.string en) (.string et) (.int .i64 ew))) := by rw [hY, hbe]; exact rowt4 w2 _ _ _ _ _
        clear hY hbe HB2
        have HXW : Hid (xo < wr.heap.size) := HPI.out.row.lt
        have HBX : Hid (Below xo w1 Y) := HPI.out.b.trans (HBY.out.mono (by have := HXW.out; omega))
        have BXY : Hid (Bxs w Y) := (HBW.out Y HBX.out).1
        have HBYw : Hid (Below w.heap.size w Y) := (HBW.out Y HBX.out).2
        cases eb
        · have HE : Hid (sc = (scz, (k : Int) + 1)) := by
            show _ = _
            have hmk := HMK.out
            have hb : badAt L wks (m + 2) = true := by unfold badAt; rw [show m + 2 = k by omega, HEE.out.2]; simp
            rw [HR.out, rest_bad (i := m) (by have := HLN.out; omega) (fun j hj => HM.out j (by omega)) hb]
            rw [show (m : Int) + 3 = (k : Int) + 1 by omega]
          have c0 : Y.cell? ⟨w.heap.size, 0, none⟩ = some (.int .i64 0) := BXY.out.1.cell (i := 0) (by omega)
          have c1 : Y.cell? ⟨w.heap.size, 1, none⟩ = some (.int .i64 0) := BXY.out.1.cell (i := 1) (by omega)
          have c2 : Y.cell? ⟨w.heap.size, 2, none⟩ = some (.slice none 0 0) := BXY.out.1.cell (i := 2) (by omega)
          have f0 := BXY.out.1.frozen 0
          have f1 := BXY.out.1.frozen 1
          have f2 := BXY.out.1.frozen 2
          have n0 : Y.cell? ⟨w.heap.size + 1, 0, none⟩ = some (.int .i64 0) := BXY.out.2.cell (i := 0) (by omega)
          have n1 : Y.cell? ⟨w.heap.size + 1, 1, none⟩ = some (.int .i64 0) := BXY.out.2.cell (i := 1) (by omega)
          have n2 : Y.cell? ⟨w.heap.size + 1, 2, none⟩ = some (.slice none 0 0) := BXY.out.2.cell (i := 2) (by omega)
          go_wp2
          refine bodyPost_ret (v := .tuple #[.agg #[.int .i64 0, .int .i64 0, .slice none 0 0], .int .i64 ((k : Int) + 1)]) (by simp [results, Tryd.results4, go_sem, c0, c1, c2]) rfl ?_
          exact sc_early HE.out (((HBYw.out.setCell (by show w.heap.size ≤ w.heap.size; omega) _).setCell (by show w.heap.size ≤ w.heap.size; omega) _).setCell (by show w.heap.size ≤ w.heap.size; omega) _)
        · have y2 : Y.cell? ⟨xo, 2, none⟩ = some (.slice oa m cap2) := (HPI.out.row.of_block (HBY.out.block _ HXW.out)).cell (i := 2) (by omega)
          have yf := (HPI.out.row.of_block (HBY.out.block _ HXW.out)).frozen 2
          have g0 : Y.cell? ⟨be, 0, none⟩ = some (.int .i64 ek) := HRE.out.cell (i := 0) (by omega)
          have g1 : Y.cell? ⟨be, 1, none⟩ = some (.string en) := HRE.out.cell (i := 1) (by omega)
          have g2 : Y.cell? ⟨be, 2, none⟩ = some (.string et) := HRE.out.cell (i := 2) (by omega)
          have g3 : Y.cell? ⟨be, 3, none⟩ = some (.int .i64 ew) := HRE.out.cell (i := 3) (by omega)
          have OY : Hid (Y.ownsRow (xo + 1) 36 4 (.slice oa m cap2) m (evcells (evsTo L wks m))) := by
            have h1 : wr.ownsRow (xo + 1) 36 4 (.slice oa m cap2) m (evcells (evsTo L wks m)) := by
              have := HPI.out.own
              unfold OwnE at this
              rw [evs_len] at this
              exact this
            obtain ⟨k1, k2⟩ := h1
            refine ⟨k1, ?_⟩
            rcases k2 with k2 | ⟨g', cp, cur, hv, hbb, hh, r⟩
            · exact Or.inl k2
            · refine Or.inr ⟨g', cp, cur, hv, hbb, (HBY.out.block g' ?_).trans hh, r⟩
              rcases Nat.lt_or_ge g' wr.heap.size with hlt2 | hge
              · exact hlt2
              · rw [Array.getElem?_eq_none hge] at hh; cases hh
          have hYs : xo < Y.heap.size := Nat.lt_of_lt_of_le HXW.out HBY.out.size
          have hml : m + 1 ≤ maxLen := by unfold maxLen; have := HMK.out; omega
          have hbb : (m + 1) * 48 ≤ 140737488355328 := by have := HMK.out; omega
          have hnb : some xo ≠ (Value.slice oa m cap2).ownBlock := fun e => by have := (HPI.out.own.lt xo e.symm).1; omega
          go_wp2_with (first | (at_builtin; refine wpList_append_lies _ rfl _ _ 22 rfl (xo + 1) 36 i0 _ 4 48 Tryd.underlying22 hi0 hz0 hz1 hz2 rfl (by omega) (.slice oa m cap2) m (evcells (evsTo L wks m)) rfl (OY.out.alloc _) ⟨Y.heap.size, 0, none⟩ 1 1 [.int .i64 ek, .string en, .string et, .int .i64 ew] rfl rfl (World.news_of_block (cs := #[.int .i64 ek, .string en, .string et, .int .i64 ew]) (t := 36) (fr := (0, 0)) (heap_alloc_new Y _)) (by simp [Value.oneCell']) (by omega) hml hbb (by simp; omega) (Y.heap.size + 1) (by simp) ?_; intro gg cap3 w3 hown3 hg3 hat hlt3; have q2 : w3.cell? ⟨xo, 2, none⟩ = some (.slice oa m cap2) := (hg3.cell_far ⟨xo, 2, none⟩ (by simp; omega) hnb).trans ((World.cell?_of_block (a := ⟨xo, 2, none⟩) (Below.heap_alloc _ _ _ hYs)).trans y2); have qf : w3.frozen? ⟨xo, 2, none⟩ = false := (hg3.frozen_far ⟨xo, 2, none⟩ (by simp; omega) hnb).trans ((World.frozen?_of_block (a := ⟨xo, 2, none⟩) (Below.heap_alloc _ _ _ hYs)).trans yf)))
          have FIN : Hid (∃ v, PI w1 (w3.setCell ⟨xo, 2, none⟩ (.slice (some ⟨gg, 0, none⟩) (m + 1) cap3)) xo wks cpy v (evsTo L wks (m + 1))) := by
            have := pi_step (e := ⟨ek, en, et, ew⟩) HPI.out (evs_len L wks m).symm HBY.out hown3 hg3
            have e2 : evsTo L wks (m + 1) = evsTo L wks m ++ [⟨ek, en, et, ew⟩] := by
              show evsTo L wks m ++ [(evOf (L.getD (m + 2) ⟨#[]⟩) wks).1] = _
              rw [show m + 2 = k by have := HMK.out; omega, HEE.out.1]
            rw [← e2] at this
            exact ⟨_, this⟩
          clear hown3 hg3 hat hlt3 y2 yf g0 g1 g2 g3 OY
          go_wp2
          go_roundw
          case rel =>
            have hmk := HMK.out
            refine ⟨k + 1, by omega, by omega, by omega, by go_num, fun j hj => ?_, ?_⟩
            · by_cases e : j = m
              · subst e
                unfold badAt
                rw [show j + 2 = k by omega, HEE.out.2, decide_eq_false (show ¬ k = 5002 by omega)]
                rfl
              · exact HM.out j (by omega)
            · rw [show k + 1 - 2 = m + 1 by omega]
              exact FIN
          case measure => simp [intOf]; omega
    · have e1 : k = ln := by omega
      have HE : Hid (sc = (⟨wks, cpy, evsTo L wks m⟩, 0)) := by
        show _ = _
        rw [HR.out, rest_end (fun j hj => HM.out j (by have := HLN.out; omega)), hm, e1, HLN.out]
      have c0 : wr.cell? ⟨w.heap.size, 0, none⟩ = some (.int .i64 0) := BXwr.out.1.cell (i := 0) (by omega)
      have c1 : wr.cell? ⟨w.heap.size, 1, none⟩ = some (.int .i64 0) := BXwr.out.1.cell (i := 1) (by omega)
      have c2 : wr.cell? ⟨w.heap.size, 2, none⟩ = some (.slice none 0 0) := BXwr.out.1.cell (i := 2) (by omega)
      have f0 := BXwr.out.1.frozen 0
      have f1 := BXwr.out.1.frozen 1
      have f2 := BXwr.out.1.frozen 2
      have n0 : wr.cell? ⟨w.heap.size + 1, 0, none⟩ = some (.int .i64 0) := BXwr.out.2.cell (i := 0) (by omega)
      have n1 : wr.cell? ⟨w.heap.size + 1, 1, none⟩ = some (.int .i64 0) := BXwr.out.2.cell (i := 1) (by omega)
      have n2 : wr.cell? ⟨w.heap.size + 1, 2, none⟩ = some (.slice none 0 0) := BXwr.out.2.cell (i := 2) (by omega)
      have hki : ¬ (k : Int) < (ln : Int) := by omega
      have hn1 : xo ≠ w.heap.size := by omega
      have hn2 : w.heap.size ≠ xo := by omega
      clear n0 n1 n2 e1 hm
      go_wp2
      refine bodyPost_ret (v := .tuple #[.agg #[.int .i64 wks, .int .i64 cpy, .slice oa m cap2], .int .i64 0]) (by simp [results, Tryd.results4, go_sem, c0, c1, c2]) rfl ?_
      rw [HE.out]
      refine ⟨.slice oa m cap2, rfl, ?_, ((HBr.out.setCell (by show w.heap.size ≤ w.heap.size; omega) _).setCell (by show w.heap.size ≤ w.heap.size; omega) _).setCell (by show w.heap.size ≤ w.heap.size; omega) _⟩
      exact own_setE (own_setE (own_setE (base := xo + 1) HPI.out.own (Nat.le_refl _) (by show w.heap.size < _; omega)) (Nat.le_refl _) (by show w.heap.size < _; omega)) (by omega) (by show w.heap.size < _; omega)

end Go.Proofs.YthmihmnagnibmaaDoor
