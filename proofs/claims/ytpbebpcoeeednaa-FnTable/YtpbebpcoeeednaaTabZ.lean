/-
  Tables: the program's finish.
-/
import Derived.Test.YtpbebpcoeeednaaTabX5
import Derived.Deep.RegionHeld3
namespace Go.Proofs.Ytpbebpcoeeednaa
open Go.RowKit

/-- A slot with a new answer. -/
def fin (d : SD) (rev : Int) (v : ByteArray) (dn : Nat) (dK : Nat → Int) (dM : Nat → ByteArray) : SD :=
  ⟨d.k, d.m, true, v, dn, dK, dM, rev, if d.has && (d.v.toList == v.toList) then d.chg else rev, 0, 0⟩
def finC (n : Nat) (D : Nat → SD) (k : Int) (m : ByteArray) (wk rev : Int) : Int :=
  match mine n D k m wk rev with
  | none => 1
  | some _ => 0
def finD (n : Nat) (D : Nat → SD) (k : Int) (m : ByteArray) (wk rev : Int) (v : ByteArray) (dn : Nat) (dK : Nat → Int) (dM : Nat → ByteArray) : Nat → SD :=
  match mine n D k m wk rev with
  | none => D
  | some i => updF D i (fin (D i) rev v dn dK dM)
def finP (n : Nat) (D : Nat → SD) (k : Int) (m : ByteArray) (wk rev : Int) (p : Nat → SP) (q : SP) : Nat → SP :=
  match mine n D k m wk rev with
  | none => p
  | some i => updF p i q

section
variable {n i : Nat} {D : Nat → SD} {k : Int} {m : ByteArray} {wk rev : Int} {v : ByteArray} {dn : Nat} {dK : Nat → Int} {dM : Nat → ByteArray} {p : Nat → SP} {q : SP}
theorem fin_none (h : mine n D k m wk rev = none) : finC n D k m wk rev = 1 ∧ finD n D k m wk rev v dn dK dM = D ∧ finP n D k m wk rev p q = p := by
  unfold finC finD finP; rw [h]; exact ⟨rfl, rfl, rfl⟩
theorem fin_yes (h : mine n D k m wk rev = some i) : finC n D k m wk rev = 0 ∧ finD n D k m wk rev v dn dK dM = updF D i (fin (D i) rev v dn dK dM) ∧ finP n D k m wk rev p q = updF p i q := by
  unfold finC finD finP; rw [h]; exact ⟨rfl, rfl, rfl⟩
end

/-- Half way through finish. -/
structure Mid1 (w w1 Y : World) (base lb g n cap sb i : Nat) (p : Nat → SP) (D : Nat → SD) (chg : Int) : Prop where
  os : OS w1 base lb (.slice (some ⟨g, 0, none⟩) n cap) n p D
  sb : w1.cell? ⟨sb, 0, none⟩ = some (.pointer (some ⟨lb, 0, none⟩))
  other : ∀ x, x ≠ g → Y.heap[x]? = w1.heap[x]?
  span : Span g (g + 1) w Y
  row : ∃ f, Y.rowIs g 81 (cap * 9) f ∧ (∀ a b, a < n → a ≠ i → b < 9 → f (a * 9 + b) = ecf (p a) (D a) b) ∧ f (i * 9) = .int .i64 (D i).k ∧ f (i * 9 + 1) = .string (D i).m ∧ f (i * 9 + 8) = .int .i64 chg

theorem mid_same {w w1 : World} {base lb g n cap sb i : Nat} {p : Nat → SP} {D : Nat → SD} (hB : Below w.heap.size w w1) (hO : OS w1 base lb (.slice (some ⟨g, 0, none⟩) n cap) n p D) (hs : w1.cell? ⟨sb, 0, none⟩ = some (.pointer (some ⟨lb, 0, none⟩))) (hi : i < n) {chg : Int} (hc : chg = (D i).chg) : Mid1 w w1 w1 base lb g n cap sb i p D chg := by
  obtain ⟨f, hr, _, _, _, _, hf⟩ := os_row hO
  exact ⟨hO, hs, fun _ _ => rfl, Span.of_below hB, f, hr, fun a b ha _ hb => hf a b ha hb, hf i 0 hi (by omega), hf i 1 hi (by omega), by rw [hc]; exact hf i 8 hi (by omega)⟩
theorem mid_new {w w1 : World} {base lb g n cap sb i : Nat} {p : Nat → SP} {D : Nat → SD} (hB : Below w.heap.size w w1) (hO : OS w1 base lb (.slice (some ⟨g, 0, none⟩) n cap) n p D) (hs : w1.cell? ⟨sb, 0, none⟩ = some (.pointer (some ⟨lb, 0, none⟩))) (hi : i < n) {chg rev : Int} (hc : chg = rev) : Mid1 w w1 (w1.setCell ⟨g, i * 9 + 8, none⟩ (.int .i64 rev)) base lb g n cap sb i p D chg := by
  obtain ⟨f, hr, _, _, _, _, hf⟩ := os_row hO
  refine ⟨hO, hs, fun x hx => Below.heap_setCell _ _ _ _ (by show x ≠ g; exact hx), (Span.of_below hB).set _ (Nat.le_refl _) (by omega) _, _, hr.set (i * 9 + 8) _, fun a b ha hne hb => ?_, ?_, ?_, ?_⟩
  · show (if a * 9 + b = i * 9 + 8 then _ else f (a * 9 + b)) = _
    rw [if_neg (by omega)]; exact hf a b ha hb
  · show (if i * 9 = i * 9 + 8 then _ else f (i * 9)) = _
    rw [if_neg (by omega)]; exact hf i 0 hi (by omega)
  · show (if i * 9 + 1 = i * 9 + 8 then _ else f (i * 9 + 1)) = _
    rw [if_neg (by omega)]; exact hf i 1 hi (by omega)
  · show (if i * 9 + 8 = i * 9 + 8 then _ else _) = _
    rw [if_pos rfl, hc]

theorem Mid1.drew {w w1 Y : World} {base lb g n cap sb i : Nat} {p : Nat → SP} {D : Nat → SD} {chg : Int} (h : Mid1 w w1 Y base lb g n cap sb i p D chg) : Mid1 w w1 Y.drew base lb g n cap sb i p D chg :=
  ⟨h.os, h.sb, h.other, ⟨h.span.os, h.span.tape, h.span.output, h.span.size, h.span.block⟩, h.row⟩

theorem mid_end {w w1 Y : World} {base lb g n cap sb i : Nat} {p : Nat → SP} {D : Nat → SD} {q : SP} {rev : Int} {v : ByteArray} {dn : Nat} {dK : Nat → Int} {dM : Nat → ByteArray} (h : Mid1 w w1 Y base lb g n cap sb i p D (fin (D i) rev v dn dK dM).chg) (hsg : sb ≠ g) :
    Left1 w ((((((Y.setCell ⟨g, i * 9 + 4, none⟩ (.bool true)).setCell ⟨g, i * 9 + 5, none⟩ (.string v)).setCell ⟨g, i * 9 + 6, none⟩ (.slice q.a dn q.c)).setCell ⟨g, i * 9 + 7, none⟩ (.int .i64 rev)).setCell ⟨g, i * 9 + 2, none⟩ (.int .i64 0)).setCell ⟨g, i * 9 + 3, none⟩ (.int .i64 0)) base lb g n cap sb (updF p i q) (updF D i (fin (D i) rev v dn dK dM)) := by
  obtain ⟨_, _, _, _, _, hgl, _⟩ := os_row h.os
  obtain ⟨f, hr, hf, h0, h1, h8⟩ := h.row
  have rr := (((((hr.set (i * 9 + 4) (.bool true)).set (i * 9 + 5) (.string v)).set (i * 9 + 6) (.slice q.a dn q.c)).set (i * 9 + 7) (.int .i64 rev)).set (i * 9 + 2) (.int .i64 0)).set (i * 9 + 3) (.int .i64 0)
  have hl : ∀ (W : World) (o : Nat) (u : Value), (W.setCell ⟨g, o, none⟩ u).heap[lb]? = W.heap[lb]? := fun W o u => Below.heap_setCell _ _ _ _ (by show lb ≠ g; exact fun e => hgl e.symm)
  have hl2 : ∀ (W : World) (o : Nat) (u : Value), (W.setCell ⟨g, o, none⟩ u).cell? ⟨sb, 0, none⟩ = W.cell? ⟨sb, 0, none⟩ := fun W o u => World.cell?_of_block (a := ⟨sb, 0, none⟩) (Below.heap_setCell _ _ _ _ (by show sb ≠ g; exact hsg))
  refine ⟨os_put h.os (by rw [hl, hl, hl, hl, hl, hl]; exact h.other lb (fun e => hgl e.symm)) rr (fun a b ha hne hb => ?_) (fun b hb => ?_), by rw [hl2, hl2, hl2, hl2, hl2, hl2, World.cell?_of_block (a := ⟨sb, 0, none⟩) (h.other sb hsg)]; exact h.sb,
    ((((((h.span).set _ (Nat.le_refl _) (by omega) _).set _ (Nat.le_refl _) (by omega) _).set _ (Nat.le_refl _) (by omega) _).set _ (Nat.le_refl _) (by omega) _).set _ (Nat.le_refl _) (by omega) _).set _ (Nat.le_refl _) (by omega) _⟩
  · show (if a * 9 + b = i * 9 + 3 then _ else if a * 9 + b = i * 9 + 2 then _ else if a * 9 + b = i * 9 + 7 then _ else if a * 9 + b = i * 9 + 6 then _ else if a * 9 + b = i * 9 + 5 then _ else if a * 9 + b = i * 9 + 4 then _ else f (a * 9 + b)) = _
    rw [if_neg (by omega), if_neg (by omega), if_neg (by omega), if_neg (by omega), if_neg (by omega), if_neg (by omega)]
    exact hf a b ha hne hb
  · show (if i * 9 + b = i * 9 + 3 then _ else if i * 9 + b = i * 9 + 2 then _ else if i * 9 + b = i * 9 + 7 then _ else if i * 9 + b = i * 9 + 6 then _ else if i * 9 + b = i * 9 + 5 then _ else if i * 9 + b = i * 9 + 4 then _ else f (i * 9 + b)) = _
    match b, hb with
    | 0, _ => simp [ecf, fin, h0]
    | 1, _ => simp [ecf, fin, h1]
    | 2, _ => simp [ecf, fin]
    | 3, _ => simp [ecf, fin]
    | 4, _ => simp [ecf, fin]
    | 5, _ => simp [ecf, fin]
    | 6, _ => simp [ecf, fin]
    | 7, _ => simp [ecf, fin]
    | 8, _ => simp only [ecf]; rw [if_neg (by omega), if_neg (by omega), if_neg (by omega), if_neg (by omega), if_neg (by omega), if_neg (by omega), h8]

set_option maxRecDepth 100000 in
set_option maxHeartbeats 8000000 in
theorem t_finish (base lb g n cap sb : Nat) (p : Nat → SP) (D : Nat → SD) (k : Int) (m : ByteArray) (wk rev : Int) (v : ByteArray) (q : SP) (dn : Nat) (dK : Nat → Int) (dM : Nat → ByteArray) (w : World) (hOS : OS w base lb (.slice (some ⟨g, 0, none⟩) n cap) n p D) (hsb : w.cell? ⟨sb, 0, none⟩ = some (.pointer (some ⟨lb, 0, none⟩))) (hsg : sb ≠ g) (hU : Up n D) (hn : n ≤ 1048576) (hwk : 0 ≤ wk ∧ wk < 16) :
    Calls Try.prog 61 #[.pointer (some ⟨sb, 0, none⟩), .agg #[.int .i64 k, .string m, .int .i64 rev], .int .i64 wk, .string v, .slice q.a dn q.c] w fun e w' => e = .returned (.int .i64 (finC n D k m wk rev)) ∧ Left1 w w' base lb g n cap sb (finP n D k m wk rev p q) (finD n D k m wk rev v dn dK dM) := by
  have HU : Hid (Up n D) := hU
  have HO : Hid (∀ w', Below w.heap.size w w' → OS w' base lb (.slice (some ⟨g, 0, none⟩) n cap) n p D ∧ w'.cell? ⟨sb, 0, none⟩ = some (.pointer (some ⟨lb, 0, none⟩))) := fun w' hb => ⟨hOS.below hb, by rw [hb.cell (p := ⟨sb, 0, none⟩) (World.block_lt_of_cell? _ _ hsb)]; exact hsb⟩
  have hwg : w.heap.size ≠ g := by
    have := (hOS.own.lt g rfl).2; omega
  have hwg2 : g ≠ w.heap.size := fun e => hwg e.symm
  clear hOS hsb hU
  go_enter Try.func61, Try.ntmps61
  go_wp2_with fail
  refine (t_held base lb g n cap sb p D k m wk rev _ (HO.out _ (bel1 _ _)).1 (HO.out _ (bel1 _ _)).2 HU.out hn hwk).mono ?_
  rintro e w1 ⟨hb1, hf⟩
  have HB1 : Hid (Below w.heap.size w w1) := (bel1 w _).trans (hb1.mono (by simp))
  have r3 := (row3 w (.int .i64 k) (.string m) (.int .i64 rev) 79).of_block (hb1.block _ (by simp))
  have q2 : w1.cell? ⟨w.heap.size, 2, none⟩ = some (.int .i64 rev) := r3.cell (i := 2) (by omega)
  have HO1 := HO.out w1 HB1.out
  have HQ : Hid (OS w1 base lb (.slice (some ⟨g, 0, none⟩) n cap) n p D ∧ w1.cell? ⟨sb, 0, none⟩ = some (.pointer (some ⟨lb, 0, none⟩))) := HO1
  clear hb1 r3 HO1
  rcases hf with ⟨hm, rfl⟩ | ⟨i, hm, hi, rfl⟩
  · have HN : Hid (finC n D k m wk rev = 1 ∧ finD n D k m wk rev v dn dK dM = D ∧ finP n D k m wk rev p q = p) := fin_none hm
    clear hm
    go_wp2
    go_ret
    refine ⟨by rw [HN.out.1]; rfl, ?_⟩
    rw [HN.out.2.1, HN.out.2.2]
    exact ⟨HQ.out.1, HQ.out.2, Span.of_below HB1.out⟩
  · obtain ⟨f, hr, hc1, hc2, hbg, hgl, hf⟩ := os_row HQ.out.1
    have hci : i * 9 + 9 ≤ cap * 9 := by omega
    have HN : Hid (finC n D k m wk rev = 0 ∧ finD n D k m wk rev v dn dK dM = updF D i (fin (D i) rev v dn dK dM) ∧ finP n D k m wk rev p q = updF p i q) := fin_yes hm
    have HI : Hid (i < n) := hi
    have a4 : w1.cell? ⟨g, i * 9 + 4, none⟩ = some (.bool (D i).has) := by rw [hr.cell (by omega), hf i 4 hi (by omega)]; rfl
    have a5 : w1.cell? ⟨g, i * 9 + 5, none⟩ = some (.string (D i).v) := by rw [hr.cell (by omega), hf i 5 hi (by omega)]; rfl
    have a8 : w1.cell? ⟨g, i * 9 + 8, none⟩ = some (.int .i64 (D i).chg) := by rw [hr.cell (by omega), hf i 8 hi (by omega)]; rfl
    have f8 := hr.frozen (i * 9 + 8)
    clear hm hi HO hr hf
    obtain ⟨hh, hhe⟩ : ∃ hh, (D i).has = hh := ⟨_, rfl⟩
    have HHE : Hid ((D i).has = hh) := hhe
    rw [hhe] at a4
    clear hhe
    cases hh
    · have HCE : Hid ((fin (D i) rev v dn dK dM).chg = rev) := by
        show (if (D i).has && _ then _ else _) = _
        rw [HHE.out]; rfl

      obtain ⟨Y, hYe⟩ : ∃ Y, Y = (w1.setCell ⟨g, i * 9 + 8, none⟩ (.int .i64 rev)) := ⟨_, rfl⟩
      have HY : Hid (Mid1 w w1 Y base lb g n cap sb i p D (fin (D i) rev v dn dK dM).chg) := by rw [hYe]; exact mid_new HB1.out HQ.out.1 HQ.out.2 HI.out HCE.out
      have y2 : Y.cell? ⟨w.heap.size, 2, none⟩ = some (.int .i64 rev) := by rw [hYe]; rw [World.cell?_of_block (a := ⟨w.heap.size, 2, none⟩) (Below.heap_setCell _ _ _ _ (by show w.heap.size ≠ g; exact hwg))]; exact q2
      go_wp2_with fail
      rw [← hYe]
      clear hYe a4 a5 a8 f8 q2
      obtain ⟨fy, hry, -, -⟩ := HY.out.row
      have s4 := hry.cell (i := i * 9 + 4) (by omega)
      have s5 := hry.cell (i := i * 9 + 5) (by omega)
      have s6 := hry.cell (i := i * 9 + 6) (by omega)
      have s7 := hry.cell (i := i * 9 + 7) (by omega)
      have t4 := hry.frozen (i * 9 + 4)
      have t5 := hry.frozen (i * 9 + 5)
      have t6 := hry.frozen (i * 9 + 6)
      have t7 := hry.frozen (i * 9 + 7)
      have r7 := (((hry.set (i * 9 + 4) (.bool true)).set (i * 9 + 5) (.string v)).set (i * 9 + 6) (.slice q.a dn q.c)).set (i * 9 + 7) (.int .i64 rev)
      have r8 := r7.drew
      have c2 := r8.cell (i := i * 9 + 2) (by omega)
      have c3 := r8.cell (i := i * 9 + 3) (by omega)
      have f2 := r8.frozen (i * 9 + 2)
      have f3 := r8.frozen (i * 9 + 3)
      clear hry r7 r8
      go_region_held (fun w' => w'.cell? ⟨w.heap.size, 2, none⟩ = some (.int .i64 rev)) (go_keep) (fail)
      go_wp2_with fail
      refine (t_letGo g (i * 9) _ _ _ c2 c3 f2 f3).mono ?_
      rintro e w2 ⟨rfl, rfl⟩
      have HE := mid_end HY.out.drew (q := q) hsg
      simp only [World.setCell_drew] at HE
      clear c2 c3 f2 f3 s4 s5 s6 s7 t4 t5 t6 t7 y2
      go_wp2
      go_ret
      refine ⟨by rw [HN.out.1]; rfl, ?_⟩
      rw [HN.out.2.1, HN.out.2.2]
      exact HE
    · obtain ⟨sv, hsve⟩ : ∃ sv, ((D i).v.toList == v.toList) = sv := ⟨_, rfl⟩
      have HSE : Hid (((D i).v.toList == v.toList) = sv) := hsve
      have hbne : ((D i).v.toList != v.toList) = !sv := by rw [bne, hsve]
      cases sv
      · have HCE : Hid ((fin (D i) rev v dn dK dM).chg = rev) := by
          show (if (D i).has && ((D i).v.toList == v.toList) then _ else _) = _
          rw [HHE.out, HSE.out]; rfl

        obtain ⟨Y, hYe⟩ : ∃ Y, Y = (w1.setCell ⟨g, i * 9 + 8, none⟩ (.int .i64 rev)) := ⟨_, rfl⟩
        have HY : Hid (Mid1 w w1 Y base lb g n cap sb i p D (fin (D i) rev v dn dK dM).chg) := by rw [hYe]; exact mid_new HB1.out HQ.out.1 HQ.out.2 HI.out HCE.out
        have y2 : Y.cell? ⟨w.heap.size, 2, none⟩ = some (.int .i64 rev) := by rw [hYe]; rw [World.cell?_of_block (a := ⟨w.heap.size, 2, none⟩) (Below.heap_setCell _ _ _ _ (by show w.heap.size ≠ g; exact hwg))]; exact q2
        go_wp2_with fail
        rw [← hYe]
        clear hYe a4 a5 a8 f8 q2 hsve hbne
        obtain ⟨fy, hry, -, -⟩ := HY.out.row
        have s4 := hry.cell (i := i * 9 + 4) (by omega)
        have s5 := hry.cell (i := i * 9 + 5) (by omega)
        have s6 := hry.cell (i := i * 9 + 6) (by omega)
        have s7 := hry.cell (i := i * 9 + 7) (by omega)
        have t4 := hry.frozen (i * 9 + 4)
        have t5 := hry.frozen (i * 9 + 5)
        have t6 := hry.frozen (i * 9 + 6)
        have t7 := hry.frozen (i * 9 + 7)
        have r7 := (((hry.set (i * 9 + 4) (.bool true)).set (i * 9 + 5) (.string v)).set (i * 9 + 6) (.slice q.a dn q.c)).set (i * 9 + 7) (.int .i64 rev)
        have r8 := r7.drew
        have c2 := r8.cell (i := i * 9 + 2) (by omega)
        have c3 := r8.cell (i := i * 9 + 3) (by omega)
        have f2 := r8.frozen (i * 9 + 2)
        have f3 := r8.frozen (i * 9 + 3)
        clear hry r7 r8
        go_region_held (fun w' => w'.cell? ⟨w.heap.size, 2, none⟩ = some (.int .i64 rev)) (go_keep) (fail)
        go_wp2_with fail
        refine (t_letGo g (i * 9) _ _ _ c2 c3 f2 f3).mono ?_
        rintro e w2 ⟨rfl, rfl⟩
        have HE := mid_end HY.out.drew (q := q) hsg
        simp only [World.setCell_drew] at HE
        clear c2 c3 f2 f3 s4 s5 s6 s7 t4 t5 t6 t7 y2
        go_wp2
        go_ret
        refine ⟨by rw [HN.out.1]; rfl, ?_⟩
        rw [HN.out.2.1, HN.out.2.2]
        exact HE
      · have HCE : Hid ((fin (D i) rev v dn dK dM).chg = (D i).chg) := by
          show (if (D i).has && ((D i).v.toList == v.toList) then _ else _) = _
          rw [HHE.out, HSE.out]; rfl

        obtain ⟨Y, hYe⟩ : ∃ Y, Y = w1 := ⟨_, rfl⟩
        have HY : Hid (Mid1 w w1 Y base lb g n cap sb i p D (fin (D i) rev v dn dK dM).chg) := by rw [hYe]; exact mid_same HB1.out HQ.out.1 HQ.out.2 HI.out HCE.out
        have y2 : Y.cell? ⟨w.heap.size, 2, none⟩ = some (.int .i64 rev) := by rw [hYe]; exact q2
        go_wp2_with fail
        rw [← hYe]
        clear hYe a4 a5 a8 f8 q2 hsve hbne
        obtain ⟨fy, hry, -, -⟩ := HY.out.row
        have s4 := hry.cell (i := i * 9 + 4) (by omega)
        have s5 := hry.cell (i := i * 9 + 5) (by omega)
        have s6 := hry.cell (i := i * 9 + 6) (by omega)
        have s7 := hry.cell (i := i * 9 + 7) (by omega)
        have t4 := hry.frozen (i * 9 + 4)
        have t5 := hry.frozen (i * 9 + 5)
        have t6 := hry.frozen (i * 9 + 6)
        have t7 := hry.frozen (i * 9 + 7)
        have r7 := (((hry.set (i * 9 + 4) (.bool true)).set (i * 9 + 5) (.string v)).set (i * 9 + 6) (.slice q.a dn q.c)).set (i * 9 + 7) (.int .i64 rev)
        have r8 := r7.drew
        have c2 := r8.cell (i := i * 9 + 2) (by omega)
        have c3 := r8.cell (i := i * 9 + 3) (by omega)
        have f2 := r8.frozen (i * 9 + 2)
        have f3 := r8.frozen (i * 9 + 3)
        clear hry r7 r8
        go_region_held (fun w' => w'.cell? ⟨w.heap.size, 2, none⟩ = some (.int .i64 rev)) (go_keep) (fail)
        go_wp2_with fail
        refine (t_letGo g (i * 9) _ _ _ c2 c3 f2 f3).mono ?_
        rintro e w2 ⟨rfl, rfl⟩
        have HE := mid_end HY.out.drew (q := q) hsg
        simp only [World.setCell_drew] at HE
        clear c2 c3 f2 f3 s4 s5 s6 s7 t4 t5 t6 t7 y2
        go_wp2
        go_ret
        refine ⟨by rw [HN.out.1]; rfl, ?_⟩
        rw [HN.out.2.1, HN.out.2.2]
        exact HE

end Go.Proofs.Ytpbebpcoeeednaa
